/- The page that law17 makes of entries, in order (made, with order true). No condition but the slice. -/
import Derived.Test.YtcdgnhhciccoeaaNod8
namespace Go.Proofs.Ytcdgnhhciccoeaa.nod
open Go.RowKit
attribute [local go_sem ↓] Go.wp_at_zero Go.wp_at_succ
set_option linter.unusedVariables false
set_option linter.unusedSimpArgs false
set_option maxRecDepth 100000

def SmT (K : List Kd) : Prop := ∀ x ∈ K, x.lo.size ≤ 98 ∧ (0 ≤ x.pl ∧ x.pl ≤ 4200) ∧ x.sm.size = 32
/-- what made returns -/
def Made (kids : Bool) (w w' : World) (e : Ending) : Prop := ∃ ev kv E K, e = .returned (nodV ev kv) ∧ E.length ≤ 12 ∧ K.length ≤ 12 ∧ SmS E ∧ SmT K ∧ (if kids then E = [] else K = []) ∧ Hp w [] [.row 43 2 ev E.length (enC E), .row 41 3 kv K.length (kdC K)] w'
set_option maxHeartbeats 32000000 in
theorem made_any (lv : Value) (kids : Bool) (L : List En) (w : World) (hl : Sl w lv L.length (enC L)) :
    Calls Try.prog 5 #[lv, .bool kids, .bool true] w fun e w' => Made kids w w' e := by
  have hso := fun W (hb : Below w.heap.size w W) => sorted_any lv L W (hl.below hb)
  have hp0 := ((((Hp.none_ w []).rowNil 43 2).rowNil 41 3).alloc #[.slice none 0 0, .slice none 0 0] 25).alloc #[.slice none 0 0, .slice none 0 0] 25
  have hq : ∀ (u : World) o, (u.alloc o).heap.size = u.heap.size + 1 := fun u o => by simp
  simp only [hq] at hp0
  replace hp0 := Lib.hid hp0; replace hso := Lib.hid hso
  clear hl hq
  go_enter Try.func5, Try.ntmps5
  go_upto_region 2 with fail
  generalize (w.alloc _).alloc _ = W at hp0 ⊢
  generalize hq3 : w.heap.size + 1 = q7 at hp0 ⊢
  generalize hq2 : w.heap.size = q6 at hp0 ⊢
  clear hq3 hq2
  have hp := hp0
  clear hp0
  go_upto_region 5 with (go_at_call 17; (with_reducible refine (hso.out _ hp.out.bel).mono ?_); rintro e w2 ⟨sv, E, rfl, hE1, hE2, h2⟩; obtain ⟨ad, cp, rfl⟩ := rowShape (h2.row (i := 0) rfl); replace hp := Lib.hid (hp.out.take h2); clear h2; replace hE1 := Lib.hid hE1; replace hE2 := Lib.hid hE2)
  have c0 := hp.out.cell (i := 1) rfl 0; have c1 := hp.out.cell (i := 1) rfl 1
  have f0 := hp.out.free (i := 1) rfl 0; have f1 := hp.out.free (i := 1) rfl 1
  have d0 := hp.out.cell (i := 2) rfl 0; have d1 := hp.out.cell (i := 2) rfl 1
  have k0 := hp.out.free (i := 2) rfl 0; have k1 := hp.out.free (i := 2) rfl 1
  simp at c0 c1 d0 d1
  cases kids with
  | false =>
    have hp2 := Lib.hid (hp.out.put (i := 1) rfl 0 (.slice ad E.length cp))
    go_upto_region 7 with fail
    generalize World.setCell w2 _ _ = W3 at hp2 ⊢
    clear f0 f1 c0 c1 d0 d1 k0 k1 hp
    have hp := hp2
    clear hp2
    have c0 := hp.out.cell (i := 1) rfl 0; have c1 := hp.out.cell (i := 1) rfl 1
    have d0 := hp.out.cell (i := 2) rfl 0; have d1 := hp.out.cell (i := 2) rfl 1
    have k0 := hp.out.free (i := 2) rfl 0; have k1 := hp.out.free (i := 2) rfl 1
    simp at c0 c1 d0 d1
    have hp2 := Lib.hid ((hp.out.put (i := 2) rfl 0 (.slice ad E.length cp)).put (i := 2) rfl 1 (.slice none 0 0))
    go_wp2
    (try simp only [Exit.inBlock, Exit.then])
    refine bodyPost_ret (v := .agg #[.slice ad E.length cp, .slice none 0 0]) (results_cell_row rfl _ _ q6 25 #[.slice ad E.length cp, .slice none 0 0] (0, 0) _ rfl (hp2.out.box (i := 2) rfl) Try.underlying25 rfl (by kernel_rfl)) rfl ?_
    exact ⟨_, _, E, [], rfl, hE1.out, by decide, hE2.out, (fun x hx => by cases hx), rfl, (((hp2.out.drop 4).drop 2).drop 1)⟩
  | true =>
    clear f0 k0 k1 d0 d1 c0 c1 f1
    obtain ⟨ne, hne⟩ : ∃ n, n = E.length := ⟨_, rfl⟩
    rw [← hne] at hp hE1 ⊢
    have hp2 : Hid (Hp w [] [.box q7 #[.slice none 0 0, .slice none 0 0] 25, .box q6 #[.slice none 0 0, .slice none 0 0] 25, .row 41 3 (.slice none 0 0) 0 [], .row 43 2 (.slice ad ne cp) ne (enC E)] w2) := (((hp.out.drop 4).perm (List.perm_append_comm (l₁ := [_]) (l₂ := [_, _, _]))))
    clear hp
    replace hne := Lib.hid hne
    go_upto_region 9 with fail
    go_loopg [9] ne (fun gm s9 wr => ∃ (i : Nat) (ad3 : Option Addr) (cp3 : Nat) (K : List Kd), s9 = .int .i64 (i : Int) ∧ i + gm = ne ∧ K.length = i ∧ SmT K ∧ Hp w [] [.box q7 #[.slice none 0 0, .slice ad3 i cp3] 25, .box q6 #[.slice none 0 0, .slice none 0 0] 25, .row 41 3 (.slice ad3 i cp3) i (kdC K), .row 43 2 (.slice ad ne cp) ne (enC E)] wr)
    case atStart => exact ⟨0, none, 0, [], rfl, by omega, rfl, (fun x hx => by cases hx), hp2.out⟩
    case round =>
      clear hp2
      obtain ⟨i, ad3, cp3, K, rfl, hi, hKl, hK, hp⟩ := hrel
      replace hp := Lib.hid hp; replace hK := Lib.hid hK; replace hKl := Lib.hid hKl
      have hE1' := hE1.out
      cases gk with
      | succ u =>
        have e1 : (i : Int) < (ne : Int) := by omega
        have e2 : (0 : Int) ≤ (i : Int) := by omega
        obtain ⟨_, _, hv, _, hz⟩ := hp.out.sl (i := 3) rfl (by omega)
        injection hv with hv1 hv2 hv3
        subst hv1
        obtain ⟨b, o, rfl, hr⟩ := hz.resolve_left (by omega)
        clear hz hv2 hv3 hr
        obtain ⟨x, hx⟩ : ∃ x, E[i]? = some x := ⟨_, List.getElem?_eq_getElem (by have := hne.out; omega)⟩
        obtain ⟨hx1, hx2⟩ := hE2.out x (List.mem_of_getElem? hx)
        obtain ⟨xk, xv⟩ := x
        have hx1' : xk.size ≤ 96 := hx1
        have hx2' : xv.size ≤ 80 := hx2
        have hS : ∀ (rs : List Rs) (k : Nat) (W' : World), Hp w [] rs W' → rs[k]? = some (.row 43 2 (.slice (some ⟨b, o, none⟩) ne cp) ne (enC E)) → W'.cell? ⟨b, o + i * 2, none⟩ = some (.string xk) ∧ W'.cell? ⟨b, o + i * 2 + 1, none⟩ = some (.string xv) := fun rs k W' h hk => by
          obtain ⟨_, _, hv, _, hz⟩ := h.sl hk (by omega)
          injection hv with hv1 hv2 hv3
          subst hv1
          obtain ⟨b3, o3, he, hr3⟩ := hz.resolve_left (by omega)
          injection he with he
          injection he with he1 he2
          subst he1 he2
          exact enC_get hr3 hx
        obtain ⟨P, hP⟩ : ∃ P : Int, P = ((xv.size : Int) * 37).tmod 4200 := ⟨_, rfl⟩
        have hPr : 0 ≤ P ∧ P ≤ 4200 := by
          rw [hP, Int.tmod_eq_emod_of_nonneg (by omega)]; omega
        have wm : IntKind.i64.wrap ((xv.size : Int) * 37) = (xv.size : Int) * 37 := IntWalk.i64_in _ (by omega)
        have hsum := fun W => sum_any xv (by omega) W
        have hKn : ∀ u, u.size = 32 → SmT (K ++ [⟨xk, P, u⟩]) := fun u hu x hx => by
          rcases List.mem_append.1 hx with h | h
          · exact hK.out x h
          · rw [List.mem_singleton.1 h]
            exact ⟨by show xk.size ≤ 98; omega, hPr, hu⟩
        replace hS := Lib.hid hS; replace hsum := Lib.hid hsum; replace hKn := Lib.hid hKn
        replace hP := hP.symm
        clear hx hx1 hx2
        go_upto_region 11 with fail
        replace hp := Lib.hid hp.out.drew
        refine wp_region_noPanic ?_; refine wp_region_held_drew (S := (fun W' => W'.cell? ⟨b, o + i * 2, none⟩ = some (.string xk) ∧ W'.cell? ⟨b, o + i * 2 + 1, none⟩ = some (.string xv))) (by kernel_rfl) ?_ (fun hHeld => ?_); (focus ((try dsimp only); (first | exact hS.out _ 3 _ hp.out rfl | exact hS.out _ 4 _ hp.out rfl); done))
        (refine take_t (i := 0) (d := 31) (oi := _) (v := ?_) rfl rfl (by kernel_rfl) (by kernel_rfl) (by kernel_rfl) (by rfl) ?_ (by assumption) ?_; rotate_left; (focus (intro w0 hSw; (try dsimp only at hSw); go_simp; (try with_reducible rfl); done)); ((try simp only [Act.put, List.setIfInBounds_toArray]); (try dsimp only [List.set_cons_zero, List.set_cons_succ]))); (refine take_t (i := 2) (d := 33) (oi := _) (v := ?_) rfl rfl (by kernel_rfl) (by kernel_rfl) (by kernel_rfl) (by rfl) ?_ (by assumption) ?_; rotate_left; (focus (intro w0 hSw; (try dsimp only at hSw); go_simp; (try with_reducible rfl); done)); ((try simp only [Act.put, List.setIfInBounds_toArray]); (try dsimp only [List.set_cons_zero, List.set_cons_succ]))); (refine take_t (i := 3) (d := 34) (oi := _) (v := ?_) rfl rfl (by kernel_rfl) (by kernel_rfl) (by kernel_rfl) (by rfl) ?_ (by assumption) ?_; rotate_left; (focus (intro w0 hSw; (try dsimp only at hSw); go_simp; (try with_reducible rfl); done)); ((try simp only [Act.put, List.setIfInBounds_toArray]); (try dsimp only [List.set_cons_zero, List.set_cons_succ]))); (refine take_t (i := 4) (d := 35) (oi := _) (v := ?_) rfl rfl (by kernel_rfl) (by kernel_rfl) (by kernel_rfl) (by rfl) ?_ (by assumption) ?_; rotate_left; (focus (intro w0 hSw; (try dsimp only at hSw); go_simp; (try with_reducible rfl); done)); ((try simp only [Act.put, List.setIfInBounds_toArray]); (try dsimp only [List.set_cons_zero, List.set_cons_succ]))); (refine take_t (i := 5) (d := 36) (oi := _) (v := ?_) rfl rfl (by kernel_rfl) (by kernel_rfl) (by kernel_rfl) (by rfl) ?_ (by assumption) ?_; rotate_left; (focus (intro w0 hSw; (try dsimp only at hSw); go_simp; (try with_reducible rfl); done)); ((try simp only [Act.put, List.setIfInBounds_toArray]); (try dsimp only [List.set_cons_zero, List.set_cons_succ]))); (refine take_t (i := 6) (d := 37) (oi := _) (v := ?_) rfl rfl (by kernel_rfl) (by kernel_rfl) (by kernel_rfl) (by rfl) ?_ (by assumption) ?_; rotate_left; (focus (intro w0 hSw; (try dsimp only at hSw); go_simp; (try with_reducible rfl); done)); ((try simp only [Act.put, List.setIfInBounds_toArray]); (try dsimp only [List.set_cons_zero, List.set_cons_succ]))); (refine take_t (i := 7) (d := 38) (oi := _) (v := ?_) rfl rfl (by kernel_rfl) (by kernel_rfl) (by kernel_rfl) (by rfl) ?_ (by assumption) ?_; rotate_left; (focus (intro w0 hSw; (try dsimp only at hSw); go_simp; (try with_reducible rfl); done)); ((try simp only [Act.put, List.setIfInBounds_toArray]); (try dsimp only [List.set_cons_zero, List.set_cons_succ]))); (refine take_t (i := 8) (d := 39) (oi := _) (v := ?_) rfl rfl (by kernel_rfl) (by kernel_rfl) (by kernel_rfl) (by rfl) ?_ (by assumption) ?_; rotate_left; (focus (intro w0 hSw; (try dsimp only at hSw); go_simp; (try with_reducible rfl); done)); ((try simp only [Act.put, List.setIfInBounds_toArray]); (try dsimp only [List.set_cons_zero, List.set_cons_succ]))); (refine take_t (i := 9) (d := 40) (oi := _) (v := ?_) rfl rfl (by kernel_rfl) (by kernel_rfl) (by kernel_rfl) (by rfl) ?_ (by assumption) ?_; rotate_left; (focus (intro w0 hSw; (try dsimp only at hSw); go_simp; (try with_reducible rfl); done)); ((try simp only [Act.put, List.setIfInBounds_toArray]); (try dsimp only [List.set_cons_zero, List.set_cons_succ]))); (refine take_t (i := 10) (d := 41) (oi := _) (v := ?_) rfl rfl (by kernel_rfl) (by kernel_rfl) (by kernel_rfl) (by rfl) ?_ (by assumption) ?_; rotate_left; (focus (intro w0 hSw; (try dsimp only at hSw); go_simp; (try with_reducible rfl); done)); ((try simp only [Act.put, List.setIfInBounds_toArray]); (try dsimp only [List.set_cons_zero, List.set_cons_succ]))); (refine take_t (i := 11) (d := 42) (oi := _) (v := ?_) rfl rfl (by kernel_rfl) (by kernel_rfl) (by kernel_rfl) (by rfl) ?_ (by assumption) ?_; rotate_left; (focus (intro w0 hSw; (try dsimp only at hSw); go_simp; (try with_reducible rfl); done)); ((try simp only [Act.put, List.setIfInBounds_toArray]); (try dsimp only [List.set_cons_zero, List.set_cons_succ]))); (refine take_t (i := 12) (d := 43) (oi := _) (v := ?_) rfl rfl (by kernel_rfl) (by kernel_rfl) (by kernel_rfl) (by rfl) ?_ (by assumption) ?_; rotate_left; (focus (intro w0 hSw; (try dsimp only at hSw); go_simp; (try with_reducible rfl); done)); ((try simp only [Act.put, List.setIfInBounds_toArray]); (try dsimp only [List.set_cons_zero, List.set_cons_succ]))); (refine take_t (i := 13) (d := 44) (oi := _) (v := ?_) rfl rfl (by kernel_rfl) (by kernel_rfl) (by kernel_rfl) (by rfl) ?_ (by assumption) ?_; rotate_left; (focus (intro w0 hSw; (try dsimp only at hSw); go_simp; (try with_reducible rfl); done)); ((try simp only [Act.put, List.setIfInBounds_toArray]); (try dsimp only [List.set_cons_zero, List.set_cons_succ]))); (refine take_t (i := 14) (d := 45) (oi := _) (v := ?_) rfl rfl (by kernel_rfl) (by kernel_rfl) (by kernel_rfl) (by rfl) ?_ (by assumption) ?_; rotate_left; (focus (intro w0 hSw; (try dsimp only at hSw); go_simp; (try with_reducible rfl); done)); ((try simp only [Act.put, List.setIfInBounds_toArray]); (try dsimp only [List.set_cons_zero, List.set_cons_succ]))); (refine take_t (i := 15) (d := 46) (oi := _) (v := ?_) rfl rfl (by kernel_rfl) (by kernel_rfl) (by kernel_rfl) (by rfl) ?_ (by assumption) ?_; rotate_left; (focus (intro w0 hSw; (try dsimp only at hSw); go_simp; (try with_reducible rfl); done)); ((try simp only [Act.put, List.setIfInBounds_toArray]); (try dsimp only [List.set_cons_zero, List.set_cons_succ]))); (refine take_t (i := 16) (d := 47) (oi := _) (v := ?_) rfl rfl (by kernel_rfl) (by kernel_rfl) (by kernel_rfl) (by rfl) ?_ (by assumption) ?_; rotate_left; (focus (intro w0 hSw; (try dsimp only at hSw); go_simp; (try with_reducible rfl); done)); ((try simp only [Act.put, List.setIfInBounds_toArray]); (try dsimp only [List.set_cons_zero, List.set_cons_succ]))); (refine take_t (i := 17) (d := 48) (oi := _) (v := ?_) rfl rfl (by kernel_rfl) (by kernel_rfl) (by kernel_rfl) (by rfl) ?_ (by assumption) ?_; rotate_left; (focus (intro w0 hSw; (try dsimp only at hSw); go_simp; (try with_reducible rfl); done)); ((try simp only [Act.put, List.setIfInBounds_toArray]); (try dsimp only [List.set_cons_zero, List.set_cons_succ]))); (refine take_t (i := 18) (d := 49) (oi := _) (v := ?_) rfl rfl (by kernel_rfl) (by kernel_rfl) (by kernel_rfl) (by rfl) ?_ (by assumption) ?_; rotate_left; (focus (intro w0 hSw; (try dsimp only at hSw); go_simp; (try with_reducible rfl); done)); ((try simp only [Act.put, List.setIfInBounds_toArray]); (try dsimp only [List.set_cons_zero, List.set_cons_succ]))); (refine take_t (i := 19) (d := 50) (oi := _) (v := ?_) rfl rfl (by kernel_rfl) (by kernel_rfl) (by kernel_rfl) (by rfl) ?_ (by assumption) ?_; rotate_left; (focus (intro w0 hSw; (try dsimp only at hSw); go_simp; (try with_reducible rfl); done)); ((try simp only [Act.put, List.setIfInBounds_toArray]); (try dsimp only [List.set_cons_zero, List.set_cons_succ])))
        have m1 := hp.out.cell (i := 0) rfl 1
        simp at m1
        refine wpAnyH_ready (rs := [1, 20]) (by kernel_rfl) (by simp) ?_; refine AllReadyH.cons (o := _) rfl (fun K' hK => ?_) (AllReadyH.cons (o := _) rfl (fun K' hK => ?_) AllReadyH.nil)
        · go_simp; (skip); (try dsimp only); refine hK.out _ _ ?_ (fun hHeld2 => ?_); (focus ((try dsimp only); (first | exact hS.out _ 3 _ hp.out rfl | exact hS.out _ 4 _ hp.out rfl); done)); clear hK K'; clear hHeld; have hHeld := hHeld2; clear hHeld2; ((try simp only [Act.put, List.setIfInBounds_toArray]); (try dsimp only [List.set_cons_zero, List.set_cons_succ]))
          (refine wpAnyH_ready (rs := [20]) (by kernel_rfl) (by simp) ?_; refine AllReadyH.cons (o := _) rfl (fun K' hK => ?_) AllReadyH.nil; go_simp; (go_at_call 14; (with_reducible refine (hsum.out _).mono ?_); rintro e w3 ⟨su, rfl, hsu, b3⟩; replace hp := Lib.hid (hp.out.below b3); clear b3; replace hsu := Lib.hid hsu); (try dsimp only); refine hK.out _ _ ?_ (fun hHeld2 => ?_); (focus ((try dsimp only); (first | exact hS.out _ 3 _ hp.out rfl | exact hS.out _ 4 _ hp.out rfl); done)); clear hK K'; clear hHeld; have hHeld := hHeld2; clear hHeld2; ((try simp only [Act.put, List.setIfInBounds_toArray]); (try dsimp only [List.set_cons_zero, List.set_cons_succ]))); (refine take_t (i := 21) (d := 52) (oi := _) (v := ?_) rfl rfl (by kernel_rfl) (by kernel_rfl) (by kernel_rfl) (by rfl) ?_ (by assumption) ?_; rotate_left; (focus (intro w0 hSw; (try dsimp only at hSw); go_simp; (try with_reducible rfl); done)); ((try simp only [Act.put, List.setIfInBounds_toArray]); (try dsimp only [List.set_cons_zero, List.set_cons_succ]))); (refine take_t (i := 22) (d := 53) (oi := _) (v := ?_) rfl rfl (by kernel_rfl) (by kernel_rfl) (by kernel_rfl) (by rfl) ?_ (by assumption) ?_; rotate_left; (focus (intro w0 hSw; (try dsimp only at hSw); go_simp; (try with_reducible rfl); done)); ((try simp only [Act.put, List.setIfInBounds_toArray]); (try dsimp only [List.set_cons_zero, List.set_cons_succ]))); (refine wpAnyH_ready (rs := [23]) (by kernel_rfl) (by simp) ?_; refine AllReadyH.cons (o := _) rfl (fun K' hK => ?_) AllReadyH.nil; go_simp; (replace hp := Lib.hid (hp.out.rowLit #[.string xk, .int .i64 P, .string su] 41 3 1 (by decide) rfl)); (try dsimp only); refine hK.out _ _ ?_ (fun hHeld2 => ?_); (focus ((try dsimp only); (first | exact hS.out _ 3 _ hp.out rfl | exact hS.out _ 4 _ hp.out rfl); done)); clear hK K'; clear hHeld; have hHeld := hHeld2; clear hHeld2; ((try simp only [Act.put, List.setIfInBounds_toArray]); (try dsimp only [List.set_cons_zero, List.set_cons_succ]))); (refine wpAnyH_ready (rs := [24]) (by kernel_rfl) (by simp) ?_; refine AllReadyH.cons (o := _) rfl (fun K' hK => ?_) AllReadyH.nil; (refine step_append_sl_hpk rfl _ _ rfl Try.underlying23 kInfo rfl (by decide) (by decide) hp.out 3 rfl rfl rfl (hp.out.sl (i := 0) rfl (by decide)) rfl (by intro u hu; simp at hu; rcases hu with rfl | rfl | rfl <;> rfl) (by omega) rfl (show kdC K ++ #[Value.string xk, .int .i64 P, .string su].toList = kdC (K ++ [⟨xk, P, su⟩]) by rw [kdC_append]; rfl) ?_; intro v6 w6 h6 hv6; replace hp := Lib.hid h6; clear h6; obtain ⟨ad6, cp6, rfl⟩ := hv6; have f1 := hp.out.free (i := 1) rfl 1; have c1 := hp.out.cell (i := 1) rfl 1; simp at c1); (try dsimp only); refine hK.out _ _ ?_ (fun hHeld2 => ?_); (focus ((try dsimp only); (first | exact hS.out _ 3 _ hp.out rfl | exact hS.out _ 4 _ hp.out rfl); done)); clear hK K'; clear hHeld; have hHeld := hHeld2; clear hHeld2; ((try simp only [Act.put, List.setIfInBounds_toArray]); (try dsimp only [List.set_cons_zero, List.set_cons_succ]))); (refine take_t (i := 25) (d := 56) (oi := _) (v := ?_) rfl rfl (by kernel_rfl) (by kernel_rfl) (by kernel_rfl) (by rfl) ?_ (by assumption) ?_; rotate_left; (focus (intro w0 hSw; (try dsimp only at hSw); go_simp; (try with_reducible rfl); done)); ((try simp only [Act.put, List.setIfInBounds_toArray]); (try dsimp only [List.set_cons_zero, List.set_cons_succ]))); (refine wpAnyH_ready (rs := [26]) (by kernel_rfl) (by simp) ?_; refine AllReadyH.cons (o := _) rfl (fun K' hK => ?_) AllReadyH.nil; go_simp; (replace hp := Lib.hid (hp.out.put (i := 1) rfl 1 (.slice ad6 (i + 1) cp6))); (try dsimp only); refine hK.out _ _ ?_ (fun hHeld2 => ?_); (focus ((try dsimp only); (first | exact hS.out _ 3 _ hp.out rfl | exact hS.out _ 4 _ hp.out rfl); done)); clear hK K'; clear hHeld; have hHeld := hHeld2; clear hHeld2; ((try simp only [Act.put, List.setIfInBounds_toArray]); (try dsimp only [List.set_cons_zero, List.set_cons_succ])))
          refine wpAnyH_done (by kernel_rfl) ?_ _; refine NoPanic.normal ?_
          go_wp2
          go_roundg u
          case rel => exact ⟨i + 1, ad6, cp6, K ++ [Kd.mk xk P su], by go_num, by omega, by simp; have := hKl.out; omega, hKn.out _ hsu.out, hp.out.drop 0⟩
          case measure => omega
        · go_simp; (go_at_call 14; (with_reducible refine (hsum.out _).mono ?_); rintro e w3 ⟨su, rfl, hsu, b3⟩; replace hp := Lib.hid (hp.out.below b3); clear b3; replace hsu := Lib.hid hsu; have m1 := hp.out.cell (i := 0) rfl 1; simp at m1); (try dsimp only); refine hK.out _ _ ?_ (fun hHeld2 => ?_); (focus ((try dsimp only); (first | exact hS.out _ 3 _ hp.out rfl | exact hS.out _ 4 _ hp.out rfl); done)); clear hK K'; clear hHeld; have hHeld := hHeld2; clear hHeld2; ((try simp only [Act.put, List.setIfInBounds_toArray]); (try dsimp only [List.set_cons_zero, List.set_cons_succ]))
          (refine take_t (i := 21) (d := 52) (oi := _) (v := ?_) rfl rfl (by kernel_rfl) (by kernel_rfl) (by kernel_rfl) (by rfl) ?_ (by assumption) ?_; rotate_left; (focus (intro w0 hSw; (try dsimp only at hSw); go_simp; (try with_reducible rfl); done)); ((try simp only [Act.put, List.setIfInBounds_toArray]); (try dsimp only [List.set_cons_zero, List.set_cons_succ]))); (refine take_t (i := 22) (d := 53) (oi := _) (v := ?_) rfl rfl (by kernel_rfl) (by kernel_rfl) (by kernel_rfl) (by rfl) ?_ (by assumption) ?_; rotate_left; (focus (intro w0 hSw; (try dsimp only at hSw); go_simp; (try with_reducible rfl); done)); ((try simp only [Act.put, List.setIfInBounds_toArray]); (try dsimp only [List.set_cons_zero, List.set_cons_succ])))
          refine wpAnyH_ready (rs := [1, 23]) (by kernel_rfl) (by simp) ?_; refine AllReadyH.cons (o := _) rfl (fun K' hK => ?_) (AllReadyH.cons (o := _) rfl (fun K' hK => ?_) AllReadyH.nil)
          · go_simp; (skip); (try dsimp only); refine hK.out _ _ ?_ (fun hHeld2 => ?_); (focus ((try dsimp only); (first | exact hS.out _ 3 _ hp.out rfl | exact hS.out _ 4 _ hp.out rfl); done)); clear hK K'; clear hHeld; have hHeld := hHeld2; clear hHeld2; ((try simp only [Act.put, List.setIfInBounds_toArray]); (try dsimp only [List.set_cons_zero, List.set_cons_succ]))
            (refine wpAnyH_ready (rs := [23]) (by kernel_rfl) (by simp) ?_; refine AllReadyH.cons (o := _) rfl (fun K' hK => ?_) AllReadyH.nil; go_simp; (replace hp := Lib.hid (hp.out.rowLit #[.string xk, .int .i64 P, .string su] 41 3 1 (by decide) rfl)); (try dsimp only); refine hK.out _ _ ?_ (fun hHeld2 => ?_); (focus ((try dsimp only); (first | exact hS.out _ 3 _ hp.out rfl | exact hS.out _ 4 _ hp.out rfl); done)); clear hK K'; clear hHeld; have hHeld := hHeld2; clear hHeld2; ((try simp only [Act.put, List.setIfInBounds_toArray]); (try dsimp only [List.set_cons_zero, List.set_cons_succ]))); (refine wpAnyH_ready (rs := [24]) (by kernel_rfl) (by simp) ?_; refine AllReadyH.cons (o := _) rfl (fun K' hK => ?_) AllReadyH.nil; (refine step_append_sl_hpk rfl _ _ rfl Try.underlying23 kInfo rfl (by decide) (by decide) hp.out 3 rfl rfl rfl (hp.out.sl (i := 0) rfl (by decide)) rfl (by intro u hu; simp at hu; rcases hu with rfl | rfl | rfl <;> rfl) (by omega) rfl (show kdC K ++ #[Value.string xk, .int .i64 P, .string su].toList = kdC (K ++ [⟨xk, P, su⟩]) by rw [kdC_append]; rfl) ?_; intro v6 w6 h6 hv6; replace hp := Lib.hid h6; clear h6; obtain ⟨ad6, cp6, rfl⟩ := hv6; have f1 := hp.out.free (i := 1) rfl 1; have c1 := hp.out.cell (i := 1) rfl 1; simp at c1); (try dsimp only); refine hK.out _ _ ?_ (fun hHeld2 => ?_); (focus ((try dsimp only); (first | exact hS.out _ 3 _ hp.out rfl | exact hS.out _ 4 _ hp.out rfl); done)); clear hK K'; clear hHeld; have hHeld := hHeld2; clear hHeld2; ((try simp only [Act.put, List.setIfInBounds_toArray]); (try dsimp only [List.set_cons_zero, List.set_cons_succ]))); (refine take_t (i := 25) (d := 56) (oi := _) (v := ?_) rfl rfl (by kernel_rfl) (by kernel_rfl) (by kernel_rfl) (by rfl) ?_ (by assumption) ?_; rotate_left; (focus (intro w0 hSw; (try dsimp only at hSw); go_simp; (try with_reducible rfl); done)); ((try simp only [Act.put, List.setIfInBounds_toArray]); (try dsimp only [List.set_cons_zero, List.set_cons_succ]))); (refine wpAnyH_ready (rs := [26]) (by kernel_rfl) (by simp) ?_; refine AllReadyH.cons (o := _) rfl (fun K' hK => ?_) AllReadyH.nil; go_simp; (replace hp := Lib.hid (hp.out.put (i := 1) rfl 1 (.slice ad6 (i + 1) cp6))); (try dsimp only); refine hK.out _ _ ?_ (fun hHeld2 => ?_); (focus ((try dsimp only); (first | exact hS.out _ 3 _ hp.out rfl | exact hS.out _ 4 _ hp.out rfl); done)); clear hK K'; clear hHeld; have hHeld := hHeld2; clear hHeld2; ((try simp only [Act.put, List.setIfInBounds_toArray]); (try dsimp only [List.set_cons_zero, List.set_cons_succ])))
            refine wpAnyH_done (by kernel_rfl) ?_ _; refine NoPanic.normal ?_
            go_wp2
            go_roundg u
            case rel => exact ⟨i + 1, ad6, cp6, K ++ [Kd.mk xk P su], by go_num, by omega, by simp; have := hKl.out; omega, hKn.out _ hsu.out, hp.out.drop 0⟩
            case measure => omega
          · go_simp; (replace hp := Lib.hid (hp.out.rowLit #[.string xk, .int .i64 P, .string su] 41 3 1 (by decide) rfl); have m1 := hp.out.cell (i := 1) rfl 1; simp at m1); (try dsimp only); refine hK.out _ _ ?_ (fun hHeld2 => ?_); (focus ((try dsimp only); (first | exact hS.out _ 3 _ hp.out rfl | exact hS.out _ 4 _ hp.out rfl); done)); clear hK K'; clear hHeld; have hHeld := hHeld2; clear hHeld2; ((try simp only [Act.put, List.setIfInBounds_toArray]); (try dsimp only [List.set_cons_zero, List.set_cons_succ]))
            (refine wpAnyH_ready (rs := [1]) (by kernel_rfl) (by simp) ?_; refine AllReadyH.cons (o := _) rfl (fun K' hK => ?_) AllReadyH.nil; go_simp; (skip); (try dsimp only); refine hK.out _ _ ?_ (fun hHeld2 => ?_); (focus ((try dsimp only); (first | exact hS.out _ 3 _ hp.out rfl | exact hS.out _ 4 _ hp.out rfl); done)); clear hK K'; clear hHeld; have hHeld := hHeld2; clear hHeld2; ((try simp only [Act.put, List.setIfInBounds_toArray]); (try dsimp only [List.set_cons_zero, List.set_cons_succ]))); (refine wpAnyH_ready (rs := [24]) (by kernel_rfl) (by simp) ?_; refine AllReadyH.cons (o := _) rfl (fun K' hK => ?_) AllReadyH.nil; (refine step_append_sl_hpk rfl _ _ rfl Try.underlying23 kInfo rfl (by decide) (by decide) hp.out 3 rfl rfl rfl (hp.out.sl (i := 0) rfl (by decide)) rfl (by intro u hu; simp at hu; rcases hu with rfl | rfl | rfl <;> rfl) (by omega) rfl (show kdC K ++ #[Value.string xk, .int .i64 P, .string su].toList = kdC (K ++ [⟨xk, P, su⟩]) by rw [kdC_append]; rfl) ?_; intro v6 w6 h6 hv6; replace hp := Lib.hid h6; clear h6; obtain ⟨ad6, cp6, rfl⟩ := hv6; have f1 := hp.out.free (i := 1) rfl 1; have c1 := hp.out.cell (i := 1) rfl 1; simp at c1); (try dsimp only); refine hK.out _ _ ?_ (fun hHeld2 => ?_); (focus ((try dsimp only); (first | exact hS.out _ 3 _ hp.out rfl | exact hS.out _ 4 _ hp.out rfl); done)); clear hK K'; clear hHeld; have hHeld := hHeld2; clear hHeld2; ((try simp only [Act.put, List.setIfInBounds_toArray]); (try dsimp only [List.set_cons_zero, List.set_cons_succ]))); (refine take_t (i := 25) (d := 56) (oi := _) (v := ?_) rfl rfl (by kernel_rfl) (by kernel_rfl) (by kernel_rfl) (by rfl) ?_ (by assumption) ?_; rotate_left; (focus (intro w0 hSw; (try dsimp only at hSw); go_simp; (try with_reducible rfl); done)); ((try simp only [Act.put, List.setIfInBounds_toArray]); (try dsimp only [List.set_cons_zero, List.set_cons_succ]))); (refine wpAnyH_ready (rs := [26]) (by kernel_rfl) (by simp) ?_; refine AllReadyH.cons (o := _) rfl (fun K' hK => ?_) AllReadyH.nil; go_simp; (replace hp := Lib.hid (hp.out.put (i := 1) rfl 1 (.slice ad6 (i + 1) cp6))); (try dsimp only); refine hK.out _ _ ?_ (fun hHeld2 => ?_); (focus ((try dsimp only); (first | exact hS.out _ 3 _ hp.out rfl | exact hS.out _ 4 _ hp.out rfl); done)); clear hK K'; clear hHeld; have hHeld := hHeld2; clear hHeld2; ((try simp only [Act.put, List.setIfInBounds_toArray]); (try dsimp only [List.set_cons_zero, List.set_cons_succ])))
            refine wpAnyH_done (by kernel_rfl) ?_ _; refine NoPanic.normal ?_
            go_wp2
            go_roundg u
            case rel => exact ⟨i + 1, ad6, cp6, K ++ [Kd.mk xk P su], by go_num, by omega, by simp; have := hKl.out; omega, hKn.out _ hsu.out, hp.out.drop 0⟩
            case measure => omega
      | zero =>
        obtain rfl : i = ne := by omega
        have e1 : ¬ (i : Int) < (i : Int) := by omega
        have c0 := hp.out.cell (i := 0) rfl 0; have c1 := hp.out.cell (i := 0) rfl 1
        have d0 := hp.out.cell (i := 1) rfl 0; have d1 := hp.out.cell (i := 1) rfl 1
        have k0 := hp.out.free (i := 1) rfl 0; have k1 := hp.out.free (i := 1) rfl 1
        simp at c0 c1 d0 d1
        have hp2 := Lib.hid ((hp.out.put (i := 1) rfl 0 (.slice none 0 0)).put (i := 1) rfl 1 (.slice ad3 i cp3))
        go_wp2
        (try simp only [Exit.inBlock, Exit.then])
        refine bodyPost_ret (v := .agg #[.slice none 0 0, .slice ad3 i cp3]) (results_cell_row rfl _ _ q6 25 #[.slice none 0 0, .slice ad3 i cp3] (0, 0) _ rfl (hp2.out.box (i := 1) rfl) Try.underlying25 rfl (by kernel_rfl)) rfl ?_
        exact ⟨_, _, [], K, rfl, by decide, by rw [hKl.out]; exact hE1.out, (fun x hx => by cases hx), hK.out, rfl, by have := (((hp2.out.drop 3).drop 1).drop 0).rowNil 43 2; rw [hKl.out]; exact this⟩
end Go.Proofs.Ytcdgnhhciccoeaa.nod
