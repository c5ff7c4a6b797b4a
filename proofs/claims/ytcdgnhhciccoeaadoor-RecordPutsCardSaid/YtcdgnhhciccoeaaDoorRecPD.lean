/- The law RecordPuts, given its awake. Condition: awake answers true. -/
import Derived.Test.YtcdgnhhciccoeaaDoorRecP6
import Derived.Test.YtcdgnhhciccoeaaDoorRecP8
import Derived.Test.YtcdgnhhciccoeaaDoorRecPA
import Derived.Test.YtcdgnhhciccoeaaDoorRecPB
import Derived.Test.YtcdgnhhciccoeaaDoorRecPC
namespace Go.Proofs.YtcdgnhhciccoeaaDoor.recw
open Go.RowKit
open code (numL boolL)
attribute [local go_sem ↓] Go.wp_at_zero Go.wp_at_succ
set_option linter.unusedVariables false
set_option linter.unusedSimpArgs false
set_option maxRecDepth 100000

theorem ok_facts {ed : Bool} {L : List Int} {ty fm tw : Int} {P : List Pr} (h : thOk ed L ty fm tw P = true) :
    (ed = true → 0 ≤ ty ∧ ty < 64) ∧ L.length ≤ 8 ∧ (∀ x ∈ L, 0 ≤ x ∧ x < 64) ∧ P.length ≤ 16 ∧ (∀ x ∈ P, 0 ≤ x.key ∧ x.key < 64 ∧ x.kd ≠ 0 ∧ mB x.vl = true) ∧ (ed = false → ty = 0 ∧ fm = 0 ∧ tw = 0) ∧ (ed = true → L = []) := by
  unfold thOk propsOk labsOk nameOk at h
  cases ed with
  | true =>
    rw [if_pos rfl] at h
    simp only [Bool.and_eq_true, decide_eq_true_eq] at h
    have h0 : L = [] := List.length_eq_zero_iff.1 h.1.1
    refine ⟨fun _ => h.1.2, by rw [h0]; decide, by rw [h0]; simp, h.2.2, propR_all P none h.2.1, by simp, fun _ => h0⟩
  | false =>
    rw [if_neg (by decide)] at h
    simp only [Bool.and_eq_true, decide_eq_true_eq] at h
    exact ⟨by simp, h.1.2.2, labR_all L none h.1.2.1, h.2.2, propR_all P none h.2.1, fun _ => ⟨h.1.1.1.1, h.1.1.1.2, h.1.1.2⟩, by simp⟩
theorem put_any (ed : Bool) (la : Value) (ty fm tw : Int) (pr : Value) (L : List Int) (P : List Pr) (w : World) (hla : Sl w la L.length (inC L)) (hpr : Sl w pr P.length (prC P)) (hvk : ∀ p ∈ P, VK p.vl) (hfm : 0 ≤ fm ∧ fm < 18446744073709551616) (htw : 0 ≤ tw ∧ tw < 18446744073709551616) :
    Calls Tryd.prog 8 #[thV ed la ty fm tw pr] w fun e w' => e = .returned (.string (str (thS ed L ty fm tw P))) ∧ Below w.heap.size w w' := by
  by_cases hok : thOk ed L ty fm tw P = true
  · obtain ⟨h1, h2, h3, h4, h5, _, _⟩ := ok_facts hok
    exact put_yes ed la ty fm tw pr L P w hla hpr hvk hok h1 hfm htw h2 h3 h4 h5
  · have : thS ed L ty fm tw P = [] := by unfold thS; rw [if_neg hok]
    rw [this]
    exact put_no ed la ty fm tw pr L P w hla hpr hvk (by simpa using hok)
theorem rput_any (ed : Bool) (la : Value) (ty fm tw : Int) (pr : Value) (L : List Int) (P : List Pr) (w : World) (hla : Sl w la L.length (inC L)) (hpr : Sl w pr P.length (prC P)) (hvk : ∀ p ∈ P, VK p.vl) (hfm : 0 ≤ fm ∧ fm < 18446744073709551616) (htw : 0 ≤ tw ∧ tw < 18446744073709551616) :
    Calls Tryd.prog 11 #[thV ed la ty fm tw pr] w fun e w' => e = .returned (.string (str (thS ed L ty fm tw P))) ∧ Below w.heap.size w w' := by
  by_cases hok : thOk ed L ty fm tw P = true
  · obtain ⟨h1, h2, h3, h4, h5, _, h7⟩ := ok_facts hok
    exact rput_yes ed la ty fm tw pr L P w hla hpr hvk hok h1 hfm htw h2 h3 h4 h5 h7
  · have : thS ed L ty fm tw P = [] := by unfold thS; rw [if_neg hok]
    rw [this]
    exact rput_no ed la ty fm tw pr L P w hla hpr hvk (by simpa using hok)
theorem get_any (ed : Bool) (ty fm tw : Int) (L : List Int) (P : List Pr) (w : World) (hvk : ∀ p ∈ P, VK p.vl) (hfm : 0 ≤ fm ∧ fm < 18446744073709551616) (htw : 0 ≤ tw ∧ tw < 18446744073709551616) (hne : thS ed L ty fm tw P ≠ []) :
    Calls Tryd.prog 9 #[.string (str (thS ed L ty fm tw P))] w fun e w' => ∃ la pr, e = .returned (.tuple #[thV ed la ty fm tw pr, .int .i64 0]) ∧ Sl w' la L.length (inC L) ∧ Sl w' pr P.length (prC P) ∧ Below w.heap.size w w' := by
  by_cases hok : thOk ed L ty fm tw P = true
  · obtain ⟨h1, h2, h3, h4, h5, h6, h7⟩ := ok_facts hok
    by_cases h8 : (thB ed L ty fm tw P).length ≤ 4096
    · have : thS ed L ty fm tw P = thB ed L ty fm tw P := by unfold thS; rw [if_pos hok, if_pos h8]
      rw [this]
      exact get_put ed L ty fm tw P w hvk hok h8 h1 hfm htw h2 h3 h4 h5 h6 h7
    · exact absurd (by unfold thS; rw [if_pos hok, if_neg h8]) hne
  · exact absurd (by unfold thS; rw [if_neg hok]) hne
theorem str_facts (l : List UInt8) (h : l ≠ []) : ((str l).toList == (⟨#[]⟩ : ByteArray).toList) = false ∧ ¬ (str l).toList = [] ∧ (str l).toList.isEmpty = false ∧ ((str l).toList == []) = false := by
  rw [str_bl]
  cases l with
  | nil => exact absurd rfl h
  | cons a t => exact ⟨by simp [ByteArray.toList_eq], by simp, rfl, rfl⟩
set_option maxHeartbeats 64000000 in
theorem recordPuts_law (odd : Int) (ed : Bool) (la0 : Value) (ty0 fm0 tw0 : Int) (pr0 : Value) (LL : List Int) (PP : List Pr) (w : World) (hla : Sl w la0 LL.length (inC LL)) (hpr : Sl w pr0 PP.length (prC PP))
    (hcap : ∀ a n c, la0 = .slice a n c → n ≤ c) (hwf : ∀ p ∈ PP, -9223372036854775808 ≤ p.n ∧ p.n ≤ 9223372036854775807) (hfm : 0 ≤ fm0 ∧ fm0 < 18446744073709551616) (htw : 0 ≤ tw0 ∧ tw0 < 18446744073709551616)
    (hAw : ∀ w', Calls Tryd.prog 10 #[] w' fun e w2 => e = .returned (.bool true) ∧ Below w'.heap.size w' w2) :
    Calls Tryd.prog 3 #[thV ed la0 ty0 fm0 tw0 pr0, .int .i64 odd] w fun e w' => e = .returned (.bool true) ∧ Below w.heap.size w w' := by
  have hmade := fun W (hb : Below w.heap.size w W) => made2_any odd ed la0 ty0 fm0 tw0 pr0 LL PP W (hla.below hb) (hpr.below hb) hcap hwf hfm htw
  have h0 := (Hp.none_ w []).alloc #[.bool ed, la0, .int .i64 ty0, .int .u64 fm0, .int .u64 tw0, pr0] 26
  unfold thV at hmade ⊢
  replace hmade := Lib.hid hmade; replace h0 := Lib.hid h0; replace hAw := Lib.hid hAw
  clear hla hpr hcap hwf hfm htw
  go_enter Tryd.func3, Tryd.ntmps3
  go_upto_region 1 with fail
  generalize w.alloc _ = W at h0 ⊢
  generalize hq2 : w.heap.size = q2 at h0 ⊢
  clear hq2
  have c0 := h0.out.cell (i := 0) rfl 0; have c1 := h0.out.cell (i := 0) rfl 1; have c2 := h0.out.cell (i := 0) rfl 2; have c3 := h0.out.cell (i := 0) rfl 3; have c4 := h0.out.cell (i := 0) rfl 4; have c5 := h0.out.cell (i := 0) rfl 5
  simp at c0 c1 c2 c3 c4 c5
  go_upto_region 2 with (go_at_call 7; (with_reducible refine (hmade.out _ h0.out.bel).mono ?_); rintro e w1 ⟨la, pr, L, P, ty, fm, tw, rfl, hsL, hsP, hvk, hfm1, htw1, b1⟩; replace h0 := Lib.hid (h0.out.below b1); clear b1 hmade; obtain ⟨a, ac, rfl, hLm, h1⟩ := hsL; obtain ⟨p, pc, rfl, hPm, h2⟩ := hsP; have hpz := (Hp.none_ w1 []).alloc #[.bool false, .slice none 0 0, .int .i64 0, .int .u64 0, .int .u64 0, .slice none 0 0] 26; have y0 := hpz.free (i := 0) rfl 0; have y1 := hpz.free (i := 0) rfl 1; have y2 := hpz.free (i := 0) rfl 2; have y3 := hpz.free (i := 0) rfl 3; have y4 := hpz.free (i := 0) rfl 4; have y5 := hpz.free (i := 0) rfl 5; clear hpz)
  have hp := (Hp.none_ w1 []).alloc #[.bool ed, .slice a L.length ac, .int .i64 ty, .int .u64 fm, .int .u64 tw, .slice p P.length pc] 26
  obtain ⟨nl, hnl⟩ : ∃ n, n = L.length := ⟨_, rfl⟩
  obtain ⟨np, hnp⟩ : ∃ n, n = P.length := ⟨_, rfl⟩
  have hsL : ∀ W, Below w1.heap.size w1 W → Sl W (.slice a nl ac) L.length (inC L) := fun W hb => Sl.below ⟨a, ac, by rw [hnl], hLm, h1⟩ hb
  have hsP : ∀ W, Below w1.heap.size w1 W → Sl W (.slice p np pc) P.length (prC P) := fun W hb => Sl.below ⟨p, pc, by rw [hnp], hPm, h2⟩ hb
  rw [← hnl, ← hnp] at hp
  rw [← hnl, ← hnp]
  clear hnl hnp h1 h2 hLm hPm y0 y1 y2 y3 y4 y5 c0 c1 c2 c3 c4 c5
  generalize w1.alloc _ = W1 at hp ⊢
  generalize hq5 : w1.heap.size = q5 at hp ⊢
  clear hq5
  obtain ⟨ok, hok⟩ : ∃ b, thOk ed L ty fm tw P = b := ⟨_, rfl⟩
  have hput := fun W hb => put_any ed (.slice a nl ac) ty fm tw (.slice p np pc) L P W (hsL W hb) (hsP W hb) hvk hfm1 htw1
  have hrput := fun W hb => rput_any ed (.slice a nl ac) ty fm tw (.slice p np pc) L P W (hsL W hb) (hsP W hb) hvk hfm1 htw1
  have hmay := fun W hb => may_any ed (.slice a nl ac) ty fm tw (.slice p np pc) L P W (hsL W hb) (hsP W hb) hvk
  have hrmay := fun W hb => rmay_any ed (.slice a nl ac) ty fm tw (.slice p np pc) L P W (hsL W hb) (hsP W hb) hvk
  have hget := fun W => get_any ed ty fm tw L P W hvk hfm1 htw1
  have hsame := fun W hb la' pr' (h1 : Sl W la' L.length (inC L)) (h2 : Sl W pr' P.length (prC P)) => rsame_any ed la' (.slice a nl ac) ty fm tw pr' (.slice p np pc) L P W h1 (hsL W hb) h2 (hsP W hb)
  rw [hok] at hmay hrmay
  obtain ⟨S, hS⟩ : ∃ S, thS ed L ty fm tw P = S := ⟨_, rfl⟩
  rw [hS] at hput hrput hget
  unfold thV at hput hrput hmay hrmay hget hsame
  replace hput := Lib.hid hput; replace hrput := Lib.hid hrput; replace hmay := Lib.hid hmay; replace hrmay := Lib.hid hrmay; replace hsame := Lib.hid hsame; replace hp := Lib.hid hp
  clear hvk hfm1 htw1 hok hS hsL hsP
  have hcs : ∀ (rs : List Rs) (W' : World), Hp w1 [] rs W' → rs[0]? = some (.box q5 #[.bool ed, .slice a nl ac, .int .i64 ty, .int .u64 fm, .int .u64 tw, .slice p np pc] 26) → W'.cell? ⟨q5, 0, none⟩ = some (.bool ed) ∧ W'.cell? ⟨q5, 1, none⟩ = some (.slice a nl ac) ∧ W'.cell? ⟨q5, 2, none⟩ = some (.int .i64 ty) ∧ W'.cell? ⟨q5, 3, none⟩ = some (.int .u64 fm) ∧ W'.cell? ⟨q5, 4, none⟩ = some (.int .u64 tw) ∧ W'.cell? ⟨q5, 5, none⟩ = some (.slice p np pc) := fun rs W' h hi =>
    ⟨(h.cell hi 0).trans rfl, (h.cell hi 1).trans rfl, (h.cell hi 2).trans rfl, (h.cell hi 3).trans rfl, (h.cell hi 4).trans rfl, (h.cell hi 5).trans rfl⟩
  replace hcs := Lib.hid hcs
  obtain ⟨c0, c1, c2, c3, c4, c5⟩ := hcs.out _ _ hp.out rfl
  go_upto_region 3 with (go_at_call 8; (with_reducible refine (hput.out _ hp.out.bel).mono ?_); rintro e w2 ⟨rfl, b2⟩; replace hp := Lib.hid (hp.out.below b2); clear b2)
  clear c0 c1 c2 c3 c4 c5
  by_cases hne : S = []
  · subst hne
    have hput2 : ∀ W, Calls Tryd.prog 9 #[.string (str [])] W fun e w' => e = .returned (.tuple #[.agg #[.bool false, .slice none 0 0, .int .i64 0, .int .u64 0, .int .u64 0, .slice none 0 0], .int .i64 2]) ∧ Below W.heap.size W w' := fun W => get_none W
    replace hput2 := Lib.hid hput2
    clear hget hsame hput
    have hrput2 : ∀ W, Below w1.heap.size w1 W → Calls Tryd.prog 11 #[.agg #[.bool ed, .slice a nl ac, .int .i64 ty, .int .u64 fm, .int .u64 tw, .slice p np pc]] W fun e w' => e = .returned (.string ⟨#[]⟩) ∧ Below W.heap.size W w' := hrput.out
    clear hrput
    generalize hs0 : str [] = s0 at hput2 ⊢
    have hs1 : s0 = ⟨#[]⟩ := hs0.symm.trans rfl
    clear hs0
    subst hs1
    go_upto_region 4 with (go_at_call 9; (with_reducible refine (hput2.out _).mono ?_); rintro e w3 ⟨rfl, b3⟩; replace hp := Lib.hid (hp.out.below b3); clear b3 hput2; have hpz := hp.out.alloc #[.bool false, .slice none 0 0, .int .i64 0, .int .u64 0, .int .u64 0, .slice none 0 0] 26; have y0 := hpz.free (i := 0) rfl 0; have y1 := hpz.free (i := 0) rfl 1; have y2 := hpz.free (i := 0) rfl 2; have y3 := hpz.free (i := 0) rfl 3; have y4 := hpz.free (i := 0) rfl 4; have y5 := hpz.free (i := 0) rfl 5; clear hpz)
    have hq := (hp.out.alloc #[.bool false, .slice none 0 0, .int .i64 0, .int .u64 0, .int .u64 0, .slice none 0 0] 26).perm (List.Perm.swap _ _ _)
    clear hp y0 y1 y2 y3 y4 y5
    generalize w3.alloc _ = W3 at hq ⊢
    generalize w3.heap.size = q7 at hq ⊢
    replace hrput2 := Lib.hid hrput2
    replace hq := Lib.hid hq.drew
    have hx : Hid (Below w.heap.size w w1) := Lib.hid h0.out.bel
    clear h0
    obtain ⟨c0, c1, c2, c3, c4, c5⟩ := hcs.out _ _ hq.out rfl
    refine wp_region_noPanic ?_; refine wp_region_held_drew (S := (fun W' => W'.cell? ⟨q5, 0, none⟩ = some (.bool ed) ∧ W'.cell? ⟨q5, 1, none⟩ = some (.slice a nl ac) ∧ W'.cell? ⟨q5, 2, none⟩ = some (.int .i64 ty) ∧ W'.cell? ⟨q5, 3, none⟩ = some (.int .u64 fm) ∧ W'.cell? ⟨q5, 4, none⟩ = some (.int .u64 tw) ∧ W'.cell? ⟨q5, 5, none⟩ = some (.slice p np pc))) (by kernel_rfl) ?_ (fun hHeld => ?_); (focus ((try dsimp only); exact hcs.out _ _ hq.out rfl; done)); (refine wpAnyH_ready (rs := [0]) (by kernel_rfl) (by simp) ?_; refine AllReadyH.cons (o := _) rfl (fun K' hK => ?_) AllReadyH.nil; go_simp; (go_at_call 10; (with_reducible refine (hAw.out _).mono ?_); rintro e w4 ⟨rfl, b4⟩; replace hq := Lib.hid (hq.out.below b4); clear b4); (try dsimp only); refine hK.out _ _ ?_ (fun hHeld2 => ?_); (focus ((try dsimp only); exact hcs.out _ _ hq.out rfl; done)); clear hK K'; clear hHeld; have hHeld := hHeld2; clear hHeld2; ((try simp only [Act.put, List.setIfInBounds_toArray]); (try dsimp only [List.set_cons_zero, List.set_cons_succ]))); (refine take_t (i := 1) (d := 20) (oi := _) (v := ?_) rfl rfl (by kernel_rfl) (by kernel_rfl) (by kernel_rfl) (by rfl) ?_ (by assumption) ?_; rotate_left; (focus (intro w0 hSw; (try dsimp only at hSw); go_simp; (try with_reducible rfl); done)); ((try simp only [Act.put, List.setIfInBounds_toArray]); (try dsimp only [List.set_cons_zero, List.set_cons_succ]))); (refine take_t (i := 2) (d := 21) (oi := _) (v := ?_) rfl rfl (by kernel_rfl) (by kernel_rfl) (by kernel_rfl) (by rfl) ?_ (by assumption) ?_; rotate_left; (focus (intro w0 hSw; (try dsimp only at hSw); go_simp; (try with_reducible rfl); done)); ((try simp only [Act.put, List.setIfInBounds_toArray]); (try dsimp only [List.set_cons_zero, List.set_cons_succ]))); (refine take_t (i := 3) (d := 22) (oi := _) (v := ?_) rfl rfl (by kernel_rfl) (by kernel_rfl) (by kernel_rfl) (by rfl) ?_ (by assumption) ?_; rotate_left; (focus (intro w0 hSw; (try dsimp only at hSw); go_simp; (try with_reducible rfl); done)); ((try simp only [Act.put, List.setIfInBounds_toArray]); (try dsimp only [List.set_cons_zero, List.set_cons_succ]))); (refine take_t (i := 4) (d := 23) (oi := _) (v := ?_) rfl rfl (by kernel_rfl) (by kernel_rfl) (by kernel_rfl) (by rfl) ?_ (by assumption) ?_; rotate_left; (focus (intro w0 hSw; (try dsimp only at hSw); go_simp; (try with_reducible rfl); done)); ((try simp only [Act.put, List.setIfInBounds_toArray]); (try dsimp only [List.set_cons_zero, List.set_cons_succ]))); (refine wpAnyH_ready (rs := [5]) (by kernel_rfl) (by simp) ?_; refine AllReadyH.cons (o := _) rfl (fun K' hK => ?_) AllReadyH.nil; go_simp; (go_at_call 11; (with_reducible refine (hrput2.out _ hq.out.bel).mono ?_); rintro e w4 ⟨rfl, b4⟩; replace hq := Lib.hid (hq.out.below b4); clear b4); (try dsimp only); refine hK.out _ _ ?_ (fun hHeld2 => ?_); (focus ((try dsimp only); exact hcs.out _ _ hq.out rfl; done)); clear hK K'; clear hHeld; have hHeld := hHeld2; clear hHeld2; ((try simp only [Act.put, List.setIfInBounds_toArray]); (try dsimp only [List.set_cons_zero, List.set_cons_succ]))); (refine take_t (i := 6) (d := 25) (oi := _) (v := ?_) rfl rfl (by kernel_rfl) (by kernel_rfl) (by kernel_rfl) (by rfl) ?_ (by assumption) ?_; rotate_left; (focus (intro w0 hSw; (try dsimp only at hSw); go_simp; (try with_reducible rfl); done)); ((try simp only [Act.put, List.setIfInBounds_toArray]); (try dsimp only [List.set_cons_zero, List.set_cons_succ]))); (refine take_t (i := 7) (d := 26) (oi := _) (v := ?_) rfl rfl (by kernel_rfl) (by kernel_rfl) (by kernel_rfl) (by rfl) ?_ (by assumption) ?_; rotate_left; (focus (intro w0 hSw; (try dsimp only at hSw); go_simp; (try with_reducible rfl); done)); ((try simp only [Act.put, List.setIfInBounds_toArray]); (try dsimp only [List.set_cons_zero, List.set_cons_succ]))); (refine take_t (i := 8) (d := 27) (oi := _) (v := ?_) rfl rfl (by kernel_rfl) (by kernel_rfl) (by kernel_rfl) (by rfl) ?_ (by assumption) ?_; rotate_left; (focus (intro w0 hSw; (try dsimp only at hSw); go_simp; (try with_reducible rfl); done)); ((try simp only [Act.put, List.setIfInBounds_toArray]); (try dsimp only [List.set_cons_zero, List.set_cons_succ]))); (refine take_t (i := 9) (d := 28) (oi := _) (v := ?_) rfl rfl (by kernel_rfl) (by kernel_rfl) (by kernel_rfl) (by rfl) ?_ (by assumption) ?_; rotate_left; (focus (intro w0 hSw; (try dsimp only at hSw); go_simp; (try with_reducible rfl); done)); ((try simp only [Act.put, List.setIfInBounds_toArray]); (try dsimp only [List.set_cons_zero, List.set_cons_succ]))); (refine take_t (i := 11) (d := 30) (oi := _) (v := ?_) rfl rfl (by kernel_rfl) (by kernel_rfl) (by kernel_rfl) (by rfl) ?_ (by assumption) ?_; rotate_left; (focus (intro w0 hSw; (try dsimp only at hSw); go_simp; (try with_reducible rfl); done)); ((try simp only [Act.put, List.setIfInBounds_toArray]); (try dsimp only [List.set_cons_zero, List.set_cons_succ]))); (refine wpAnyH_ready (rs := [10]) (by kernel_rfl) (by simp) ?_; refine AllReadyH.cons (o := _) rfl (fun K' hK => ?_) AllReadyH.nil; go_simp; (go_at_call 12; (with_reducible refine (hmay.out _ hq.out.bel).mono ?_); rintro e w4 ⟨rfl, b4⟩; replace hq := Lib.hid (hq.out.below b4); clear b4); (try dsimp only); refine hK.out _ _ ?_ (fun hHeld2 => ?_); (focus ((try dsimp only); exact hcs.out _ _ hq.out rfl; done)); clear hK K'; clear hHeld; have hHeld := hHeld2; clear hHeld2; ((try simp only [Act.put, List.setIfInBounds_toArray]); (try dsimp only [List.set_cons_zero, List.set_cons_succ]))); (refine wpAnyH_ready (rs := [12]) (by kernel_rfl) (by simp) ?_; refine AllReadyH.cons (o := _) rfl (fun K' hK => ?_) AllReadyH.nil; go_simp; (go_at_call 13; (with_reducible refine (hrmay.out _ hq.out.bel).mono ?_); rintro e w4 ⟨rfl, b4⟩; replace hq := Lib.hid (hq.out.below b4); clear b4); (try dsimp only); refine hK.out _ _ ?_ (fun hHeld2 => ?_); (focus ((try dsimp only); exact hcs.out _ _ hq.out rfl; done)); clear hK K'; clear hHeld; have hHeld := hHeld2; clear hHeld2; ((try simp only [Act.put, List.setIfInBounds_toArray]); (try dsimp only [List.set_cons_zero, List.set_cons_succ]))); (refine take_t (i := 13) (d := 32) (oi := _) (v := ?_) rfl rfl (by kernel_rfl) (by kernel_rfl) (by kernel_rfl) (by rfl) ?_ (by assumption) ?_; rotate_left; (focus (intro w0 hSw; (try dsimp only at hSw); go_simp; (try with_reducible rfl); done)); ((try simp only [Act.put, List.setIfInBounds_toArray]); (try dsimp only [List.set_cons_zero, List.set_cons_succ]))); (refine take_t (i := 14) (d := 33) (oi := _) (v := ?_) rfl rfl (by kernel_rfl) (by kernel_rfl) (by kernel_rfl) (by rfl) ?_ (by assumption) ?_; rotate_left; (focus (intro w0 hSw; (try dsimp only at hSw); go_simp; (try with_reducible rfl); done)); ((try simp only [Act.put, List.setIfInBounds_toArray]); (try dsimp only [List.set_cons_zero, List.set_cons_succ]))); refine wpAnyH_done (by kernel_rfl) ?_ _; refine NoPanic.normal ?_
    go_wp2
    go_ret
    exact ⟨rfl, belowCont hx.out hq.out.bel⟩
  · have hget2 := fun W => hget W hne
    obtain ⟨z1, z2, z3, z4⟩ := str_facts S hne
    have z5 : ((str S).toList == (str S).toList) = true := by simp
    have z6 : ((str S).toList != (str S).toList) = false := by simp
    replace hget2 := Lib.hid hget2
    clear hget hne
    generalize str S = s at hget2 z1 z2 z3 z4 z5 z6 hrput ⊢
    clear hput
    go_upto_region 4 with (go_at_call 9; (with_reducible refine (hget2.out _).mono ?_); rintro e w3 ⟨la', pr', rfl, g1, g2, b3⟩; replace hp := Lib.hid (hp.out.below b3); clear b3 hget2; obtain ⟨a', ac', rfl, hLm, h1⟩ := g1; obtain ⟨p', pc', rfl, hPm, h2⟩ := g2; have hpz := hp.out.alloc #[.bool false, .slice none 0 0, .int .i64 0, .int .u64 0, .int .u64 0, .slice none 0 0] 26; have y0 := hpz.free (i := 0) rfl 0; have y1 := hpz.free (i := 0) rfl 1; have y2 := hpz.free (i := 0) rfl 2; have y3 := hpz.free (i := 0) rfl 3; have y4 := hpz.free (i := 0) rfl 4; have y5 := hpz.free (i := 0) rfl 5; clear hpz)
    have hb13 := hp.out.bel
    have hb5 := hp.out.box (i := 0) rfl
    obtain ⟨m1, hm1⟩ : ∃ n, n = L.length := ⟨_, rfl⟩
    obtain ⟨m2, hm2⟩ : ∃ n, n = P.length := ⟨_, rfl⟩
    have hsL : ∀ W, Below w3.heap.size w3 W → Sl W (.slice a' m1 ac') L.length (inC L) := fun W hb => Sl.below ⟨a', ac', by rw [hm1], hLm, h1⟩ hb
    have hsP : ∀ W, Below w3.heap.size w3 W → Sl W (.slice p' m2 pc') P.length (prC P) := fun W hb => Sl.below ⟨p', pc', by rw [hm2], hPm, h2⟩ hb
    have hq := (Hp.none_ w3 []).alloc #[.bool ed, .slice a' L.length ac', .int .i64 ty, .int .u64 fm, .int .u64 tw, .slice p' P.length pc'] 26
    rw [← hm1, ← hm2] at hq
    rw [← hm1, ← hm2]
    clear hm1 hm2 h1 h2 hLm hPm y0 y1 y2 y3 y4 y5
    have hB : ∀ rs W', Hp w3 [] rs W' → Below w1.heap.size w1 W' := fun rs W' h => belowCont hb13 h.bel
    have hc5 : ∀ rs W', Hp w3 [] rs W' → W'.cell? ⟨q5, 0, none⟩ = some (.bool ed) ∧ W'.cell? ⟨q5, 1, none⟩ = some (.slice a nl ac) ∧ W'.cell? ⟨q5, 2, none⟩ = some (.int .i64 ty) ∧ W'.cell? ⟨q5, 3, none⟩ = some (.int .u64 fm) ∧ W'.cell? ⟨q5, 4, none⟩ = some (.int .u64 tw) ∧ W'.cell? ⟨q5, 5, none⟩ = some (.slice p np pc) := fun rs W' h => by
      have hk := (h.bel.block _ (block_lt hb5)).trans hb5
      exact ⟨(cell_of_row _ _ 0 _ _ _ hk).trans rfl, (cell_of_row _ _ 1 _ _ _ hk).trans rfl, (cell_of_row _ _ 2 _ _ _ hk).trans rfl, (cell_of_row _ _ 3 _ _ _ hk).trans rfl, (cell_of_row _ _ 4 _ _ _ hk).trans rfl, (cell_of_row _ _ 5 _ _ _ hk).trans rfl⟩
    generalize w3.alloc _ = W3 at hq ⊢
    generalize hq7 : w3.heap.size = q7 at hq ⊢
    clear hq7
    have hc7 : ∀ W', Hp w3 [] [.box q7 #[.bool ed, .slice a' m1 ac', .int .i64 ty, .int .u64 fm, .int .u64 tw, .slice p' m2 pc'] 26] W' → W'.cell? ⟨q7, 0, none⟩ = some (.bool ed) ∧ W'.cell? ⟨q7, 1, none⟩ = some (.slice a' m1 ac') ∧ W'.cell? ⟨q7, 2, none⟩ = some (.int .i64 ty) ∧ W'.cell? ⟨q7, 3, none⟩ = some (.int .u64 fm) ∧ W'.cell? ⟨q7, 4, none⟩ = some (.int .u64 tw) ∧ W'.cell? ⟨q7, 5, none⟩ = some (.slice p' m2 pc') := fun W' h =>
      ⟨(h.cell (i := 0) rfl 0).trans rfl, (h.cell (i := 0) rfl 1).trans rfl, (h.cell (i := 0) rfl 2).trans rfl, (h.cell (i := 0) rfl 3).trans rfl, (h.cell (i := 0) rfl 4).trans rfl, (h.cell (i := 0) rfl 5).trans rfl⟩
    have hx : Hid (Below w.heap.size w w1) := Lib.hid h0.out.bel
    have hsame2 : ∀ rs W', Hp w3 [] rs W' → Calls Tryd.prog 14 #[.agg #[.bool ed, .slice a' m1 ac', .int .i64 ty, .int .u64 fm, .int .u64 tw, .slice p' m2 pc'], .agg #[.bool ed, .slice a nl ac, .int .i64 ty, .int .u64 fm, .int .u64 tw, .slice p np pc]] W' fun e w' => e = .returned (.bool true) ∧ Below W'.heap.size W' w' := fun rs W' h => hsame.out W' (belowCont hb13 h.bel) _ _ (hsL W' h.bel) (hsP W' h.bel)
    replace hB := Lib.hid hB; replace hc5 := Lib.hid hc5; replace hc7 := Lib.hid hc7; replace hsame2 := Lib.hid hsame2; replace hb13 := Lib.hid hb13
    clear hp h0 hsame hb5 hsL hsP hcs
    replace hq := Lib.hid hq.drew
    have cc := hc5.out _ _ hq.out
    refine wp_region_noPanic ?_; refine wp_region_held_drew (S := (fun W' => W'.cell? ⟨q5, 0, none⟩ = some (.bool ed) ∧ W'.cell? ⟨q5, 1, none⟩ = some (.slice a nl ac) ∧ W'.cell? ⟨q5, 2, none⟩ = some (.int .i64 ty) ∧ W'.cell? ⟨q5, 3, none⟩ = some (.int .u64 fm) ∧ W'.cell? ⟨q5, 4, none⟩ = some (.int .u64 tw) ∧ W'.cell? ⟨q5, 5, none⟩ = some (.slice p np pc))) (by kernel_rfl) ?_ (fun hHeld => ?_); (focus ((try dsimp only); exact hc5.out _ _ hq.out; done)); (refine wpAnyH_ready (rs := [0]) (by kernel_rfl) (by simp) ?_; refine AllReadyH.cons (o := _) rfl (fun K' hK => ?_) AllReadyH.nil; go_simp; (go_at_call 10; (with_reducible refine (hAw.out _).mono ?_); rintro e w4 ⟨rfl, b4⟩; replace hq := Lib.hid (hq.out.below b4); clear b4); (try dsimp only); refine hK.out _ _ ?_ (fun hHeld2 => ?_); (focus ((try dsimp only); exact hc5.out _ _ hq.out; done)); clear hK K'; clear hHeld; have hHeld := hHeld2; clear hHeld2; ((try simp only [Act.put, List.setIfInBounds_toArray]); (try dsimp only [List.set_cons_zero, List.set_cons_succ]))); (refine take_t (i := 1) (d := 20) (oi := _) (v := ?_) rfl rfl (by kernel_rfl) (by kernel_rfl) (by kernel_rfl) (by rfl) ?_ (by assumption) ?_; rotate_left; (focus (intro w0 hSw; (try dsimp only at hSw); go_simp; (try with_reducible rfl); done)); ((try simp only [Act.put, List.setIfInBounds_toArray]); (try dsimp only [List.set_cons_zero, List.set_cons_succ]))); (refine take_t (i := 2) (d := 21) (oi := _) (v := ?_) rfl rfl (by kernel_rfl) (by kernel_rfl) (by kernel_rfl) (by rfl) ?_ (by assumption) ?_; rotate_left; (focus (intro w0 hSw; (try dsimp only at hSw); go_simp; (try with_reducible rfl); done)); ((try simp only [Act.put, List.setIfInBounds_toArray]); (try dsimp only [List.set_cons_zero, List.set_cons_succ]))); (refine take_t (i := 3) (d := 22) (oi := _) (v := ?_) rfl rfl (by kernel_rfl) (by kernel_rfl) (by kernel_rfl) (by rfl) ?_ (by assumption) ?_; rotate_left; (focus (intro w0 hSw; (try dsimp only at hSw); go_simp; (try with_reducible rfl); done)); ((try simp only [Act.put, List.setIfInBounds_toArray]); (try dsimp only [List.set_cons_zero, List.set_cons_succ]))); (refine take_t (i := 4) (d := 23) (oi := _) (v := ?_) rfl rfl (by kernel_rfl) (by kernel_rfl) (by kernel_rfl) (by rfl) ?_ (by assumption) ?_; rotate_left; (focus (intro w0 hSw; (try dsimp only at hSw); go_simp; (try with_reducible rfl); done)); ((try simp only [Act.put, List.setIfInBounds_toArray]); (try dsimp only [List.set_cons_zero, List.set_cons_succ]))); (refine wpAnyH_ready (rs := [5]) (by kernel_rfl) (by simp) ?_; refine AllReadyH.cons (o := _) rfl (fun K' hK => ?_) AllReadyH.nil; go_simp; (go_at_call 11; (with_reducible refine (hrput.out _ (hB.out _ _ hq.out)).mono ?_); rintro e w4 ⟨rfl, b4⟩; replace hq := Lib.hid (hq.out.below b4); clear b4); (try dsimp only); refine hK.out _ _ ?_ (fun hHeld2 => ?_); (focus ((try dsimp only); exact hc5.out _ _ hq.out; done)); clear hK K'; clear hHeld; have hHeld := hHeld2; clear hHeld2; ((try simp only [Act.put, List.setIfInBounds_toArray]); (try dsimp only [List.set_cons_zero, List.set_cons_succ]))); (refine take_t (i := 6) (d := 25) (oi := _) (v := ?_) rfl rfl (by kernel_rfl) (by kernel_rfl) (by kernel_rfl) (by rfl) ?_ (by assumption) ?_; rotate_left; (focus (intro w0 hSw; (try dsimp only at hSw); go_simp; (try with_reducible rfl); done)); ((try simp only [Act.put, List.setIfInBounds_toArray]); (try dsimp only [List.set_cons_zero, List.set_cons_succ]))); (refine take_t (i := 7) (d := 26) (oi := _) (v := ?_) rfl rfl (by kernel_rfl) (by kernel_rfl) (by kernel_rfl) (by rfl) ?_ (by assumption) ?_; rotate_left; (focus (intro w0 hSw; (try dsimp only at hSw); go_simp; (try with_reducible rfl); done)); ((try simp only [Act.put, List.setIfInBounds_toArray]); (try dsimp only [List.set_cons_zero, List.set_cons_succ]))); (refine take_t (i := 8) (d := 27) (oi := _) (v := ?_) rfl rfl (by kernel_rfl) (by kernel_rfl) (by kernel_rfl) (by rfl) ?_ (by assumption) ?_; rotate_left; (focus (intro w0 hSw; (try dsimp only at hSw); go_simp; (try with_reducible rfl); done)); ((try simp only [Act.put, List.setIfInBounds_toArray]); (try dsimp only [List.set_cons_zero, List.set_cons_succ]))); (refine take_t (i := 9) (d := 28) (oi := _) (v := ?_) rfl rfl (by kernel_rfl) (by kernel_rfl) (by kernel_rfl) (by rfl) ?_ (by assumption) ?_; rotate_left; (focus (intro w0 hSw; (try dsimp only at hSw); go_simp; (try with_reducible rfl); done)); ((try simp only [Act.put, List.setIfInBounds_toArray]); (try dsimp only [List.set_cons_zero, List.set_cons_succ]))); (refine take_t (i := 11) (d := 30) (oi := _) (v := ?_) rfl rfl (by kernel_rfl) (by kernel_rfl) (by kernel_rfl) (by rfl) ?_ (by assumption) ?_; rotate_left; (focus (intro w0 hSw; (try dsimp only at hSw); go_simp; (try with_reducible rfl); done)); ((try simp only [Act.put, List.setIfInBounds_toArray]); (try dsimp only [List.set_cons_zero, List.set_cons_succ]))); (refine wpAnyH_ready (rs := [10]) (by kernel_rfl) (by simp) ?_; refine AllReadyH.cons (o := _) rfl (fun K' hK => ?_) AllReadyH.nil; go_simp; (go_at_call 12; (with_reducible refine (hmay.out _ (hB.out _ _ hq.out)).mono ?_); rintro e w4 ⟨rfl, b4⟩; replace hq := Lib.hid (hq.out.below b4); clear b4); (try dsimp only); refine hK.out _ _ ?_ (fun hHeld2 => ?_); (focus ((try dsimp only); exact hc5.out _ _ hq.out; done)); clear hK K'; clear hHeld; have hHeld := hHeld2; clear hHeld2; ((try simp only [Act.put, List.setIfInBounds_toArray]); (try dsimp only [List.set_cons_zero, List.set_cons_succ]))); (refine wpAnyH_ready (rs := [12]) (by kernel_rfl) (by simp) ?_; refine AllReadyH.cons (o := _) rfl (fun K' hK => ?_) AllReadyH.nil; go_simp; (go_at_call 13; (with_reducible refine (hrmay.out _ (hB.out _ _ hq.out)).mono ?_); rintro e w4 ⟨rfl, b4⟩; replace hq := Lib.hid (hq.out.below b4); clear b4); (try dsimp only); refine hK.out _ _ ?_ (fun hHeld2 => ?_); (focus ((try dsimp only); exact hc5.out _ _ hq.out; done)); clear hK K'; clear hHeld; have hHeld := hHeld2; clear hHeld2; ((try simp only [Act.put, List.setIfInBounds_toArray]); (try dsimp only [List.set_cons_zero, List.set_cons_succ]))); (refine take_t (i := 13) (d := 32) (oi := _) (v := ?_) rfl rfl (by kernel_rfl) (by kernel_rfl) (by kernel_rfl) (by rfl) ?_ (by assumption) ?_; rotate_left; (focus (intro w0 hSw; (try dsimp only at hSw); go_simp; (try with_reducible rfl); done)); ((try simp only [Act.put, List.setIfInBounds_toArray]); (try dsimp only [List.set_cons_zero, List.set_cons_succ]))); (refine take_t (i := 14) (d := 33) (oi := _) (v := ?_) rfl rfl (by kernel_rfl) (by kernel_rfl) (by kernel_rfl) (by rfl) ?_ (by assumption) ?_; rotate_left; (focus (intro w0 hSw; (try dsimp only at hSw); go_simp; (try with_reducible rfl); done)); ((try simp only [Act.put, List.setIfInBounds_toArray]); (try dsimp only [List.set_cons_zero, List.set_cons_succ]))); refine wpAnyH_done (by kernel_rfl) ?_ _; refine NoPanic.normal ?_
    clear cc
    obtain ⟨c0, c1, c2, c3, c4, c5⟩ := hc5.out _ _ hq.out
    obtain ⟨d0, d1, d2, d3, d4, d5⟩ := hc7.out _ hq.out
    go_wp2_with (go_at_call 14; (with_reducible refine (hsame2.out _ _ hq.out).mono ?_); rintro e w5 ⟨rfl, b5⟩; replace hq := Lib.hid (hq.out.below b5); clear b5)
    go_ret
    exact ⟨rfl, belowCont hx.out (belowCont hb13.out hq.out.bel)⟩
end Go.Proofs.YtcdgnhhciccoeaaDoor.recw
