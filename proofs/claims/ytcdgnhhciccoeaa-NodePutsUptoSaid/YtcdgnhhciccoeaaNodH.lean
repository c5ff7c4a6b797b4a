/- The page that law17 makes of entries, as they come (made, with order false); of both. No condition but the slice and short texts. -/
import Derived.Test.YtcdgnhhciccoeaaNod9
namespace Go.Proofs.Ytcdgnhhciccoeaa.nod
open Go.RowKit
attribute [local go_sem ↓] Go.wp_at_zero Go.wp_at_succ
set_option linter.unusedVariables false
set_option linter.unusedSimpArgs false
set_option maxRecDepth 100000

def SmU (K : List Kd) : Prop := ∀ x ∈ K, x.lo.size ≤ 2000000 ∧ (0 ≤ x.pl ∧ x.pl ≤ 4200) ∧ x.sm.size = 32
/-- what made returns, as slices -/
def MadeN (kids : Bool) (w w' : World) (e : Ending) : Prop := ∃ ev kv E K, e = .returned (nodV ev kv) ∧ SmE E ∧ SmK K ∧ (if kids then E = [] else K = []) ∧ Sl w' ev E.length (enC E) ∧ Sl w' kv K.length (kdC K) ∧ Below w.heap.size w w'
theorem Made.n {kids : Bool} {w w' : World} {e : Ending} (h : Made kids w w' e) : MadeN kids w w' e := by
  obtain ⟨ev, kv, E, K, rfl, hE1, hK1, hE2, hK2, hone, hp⟩ := h
  exact ⟨ev, kv, E, K, rfl, ⟨by omega, fun e he => by have := hE2 e he; omega⟩, ⟨by omega, fun x hx => by have := hK2 x hx; omega⟩, hone, hp.sl (i := 0) rfl (by omega), hp.sl (i := 1) rfl (by omega), hp.bel⟩
set_option maxHeartbeats 32000000 in
theorem madeF_any (a0 : Option Addr) (c0 : Nat) (kids : Bool) (L : List En) (w : World) (hl : Sl w (.slice a0 L.length c0) L.length (enC L)) (hcap : L.length ≤ c0) (hsm : ∀ e ∈ L, e.k.size ≤ 2000000 ∧ e.v.size ≤ 2000000) :
    Calls Try.prog 5 #[.slice a0 L.length c0, .bool kids, .bool false] w fun e w' => MadeN kids w w' e := by
  obtain ⟨lv, hlv⟩ : ∃ v, v = Value.slice a0 L.length c0 := ⟨_, rfl⟩
  have hl1 := hl
  rw [← hlv] at hl1
  obtain ⟨E, hE⟩ : ∃ E, E = L.take 12 := ⟨_, rfl⟩
  obtain ⟨ne, hne⟩ : ∃ n, n = E.length := ⟨_, rfl⟩
  have hne1 : ne = min L.length 12 := by rw [hne, hE, List.length_take]; omega
  have hE1 : ne ≤ 12 := by omega
  have hE2 : ∀ e ∈ E, e.k.size ≤ 2000000 ∧ e.v.size ≤ 2000000 := fun e he => by rw [hE] at he; exact hsm e (List.mem_of_mem_take he)
  have hsl := sl_sliced En.c 2 En.c_len hl rfl 0 ne c0 (by omega) (by omega) (by omega)
  have hr1 : ∀ W : World, (Instr.slice 22 (.slice a0 L.length c0) none (some (.int .i64 (ne : Int))) none).run Try.prog W = .ok (sliced a0 0 ne c0 2) W := fun W => by rw [run_slice_h W 22 a0 L.length c0 Try.underlying22 .i64 (ne : Int) (by omega) (by omega), szE]; rfl
  obtain ⟨ad, nn, cp, hv⟩ : ∃ p n c, sliced a0 0 ne c0 2 = Value.slice p n c := ⟨_, _, _, rfl⟩
  simp only [hv] at hr1 hsl
  have hnn : nn = ne := by
    obtain ⟨_, _, h, _, _⟩ := hsl
    injection h with _ h2 _
  subst hnn
  have hsE : Sl w (.slice ad nn cp) nn (enC E) := by
    have := hsl
    rw [Nat.sub_zero, List.drop_zero] at this
    have e : L.take nn = E := by rw [hE, hne1]; rcases Nat.le_total L.length 12 with h | h
                                 · rw [Nat.min_eq_left h, List.take_length, List.take_of_length_le h]
                                 · rw [Nat.min_eq_right h]
    rw [e] at this; exact this
  have hmin : min (L.length : Int) 12 = (nn : Int) := by omega
  clear hsl hE hv hl hcap hsm

  have hso := fun W (hb : Below w.heap.size w W) => sorted_any lv L W (hl1.below hb)
  have hp0 := ((((Hp.none_ w []).rowNil 43 2).rowNil 41 3).alloc #[.slice none 0 0, .slice none 0 0] 25).alloc #[.slice none 0 0, .slice none 0 0] 25
  have hq : ∀ (u : World) o, (u.alloc o).heap.size = u.heap.size + 1 := fun u o => by simp
  simp only [hq] at hp0
  replace hp0 := Lib.hid hp0; replace hso := Lib.hid hso; replace hsE := Lib.hid hsE; replace hE2 := Lib.hid hE2; replace hne := Lib.hid hne
  clear hl1 hq hne1
  rw [hlv] at hso
  clear hlv
  generalize L.length = ln at hmin hr1 hso ⊢
  go_enter Try.func5, Try.ntmps5
  go_upto_region 2 with fail
  generalize (w.alloc _).alloc _ = W at hp0 ⊢
  generalize hq3 : w.heap.size + 1 = q7 at hp0 ⊢
  generalize hq2 : w.heap.size = q6 at hp0 ⊢
  clear hq3 hq2
  have hp := hp0
  clear hp0
  go_upto_region 5 with (go_at_call 17; (with_reducible refine (hso.out _ hp.out.bel).mono ?_); rintro e w2 ⟨sv, Es, rfl, hEs1, hEs2, h2⟩; obtain ⟨ads, cps, rfl⟩ := rowShape (h2.row (i := 0) rfl); replace hp := Lib.hid (hp.out.take h2); clear h2 hEs1 hEs2)
  have c0 := hp.out.cell (i := 1) rfl 0; have c1 := hp.out.cell (i := 1) rfl 1
  have f0 := hp.out.free (i := 1) rfl 0; have f1 := hp.out.free (i := 1) rfl 1
  have d0 := hp.out.cell (i := 2) rfl 0; have d1 := hp.out.cell (i := 2) rfl 1
  have k0 := hp.out.free (i := 2) rfl 0; have k1 := hp.out.free (i := 2) rfl 1
  simp at c0 c1 d0 d1
  cases kids with
  | false =>
    have hp2 := Lib.hid (hp.out.put (i := 1) rfl 0 (.slice ad nn cp))
    go_upto_region 7 with fail
    generalize World.setCell w2 _ _ = W3 at hp2 ⊢
    clear f0 f1 c0 c1 d0 d1 k0 k1 hp
    have hp := hp2
    clear hp2
    have c0 := hp.out.cell (i := 1) rfl 0; have c1 := hp.out.cell (i := 1) rfl 1
    have d0 := hp.out.cell (i := 2) rfl 0; have d1 := hp.out.cell (i := 2) rfl 1
    have k0 := hp.out.free (i := 2) rfl 0; have k1 := hp.out.free (i := 2) rfl 1
    simp at c0 c1 d0 d1
    have hp2 := Lib.hid ((hp.out.put (i := 2) rfl 0 (.slice ad nn cp)).put (i := 2) rfl 1 (.slice none 0 0))
    go_wp2
    (try simp only [Exit.inBlock, Exit.then])
    refine bodyPost_ret (v := .agg #[.slice ad nn cp, .slice none 0 0]) (results_cell_row rfl _ _ q6 25 #[.slice ad nn cp, .slice none 0 0] (0, 0) _ rfl (hp2.out.box (i := 2) rfl) Try.underlying25 rfl (by kernel_rfl)) rfl ?_
    exact ⟨_, _, E, [], rfl, ⟨by have := hne.out; omega, hE2.out⟩, ⟨by decide, fun x hx => by cases hx⟩, rfl, by rw [← hne.out]; exact hsE.out.below hp2.out.bel, Sl.nil _, hp2.out.bel⟩
  | true =>
    clear f0 k0 k1 d0 d1 c0 c1 f1
    have hp2 : Hid (Hp w [] [.box q7 #[.slice none 0 0, .slice none 0 0] 25, .box q6 #[.slice none 0 0, .slice none 0 0] 25, .row 41 3 (.slice none 0 0) 0 []] w2) := ((hp.out.drop 4).drop 0)
    clear hp
    go_upto_region 9 with fail
    go_loopg [9] nn (fun gm s9 wr => ∃ (i : Nat) (ad3 : Option Addr) (cp3 : Nat) (K : List Kd), s9 = .int .i64 (i : Int) ∧ i + gm = nn ∧ K.length = i ∧ SmU K ∧ Hp w [] [.box q7 #[.slice none 0 0, .slice ad3 i cp3] 25, .box q6 #[.slice none 0 0, .slice none 0 0] 25, .row 41 3 (.slice ad3 i cp3) i (kdC K)] wr)
    case atStart => exact ⟨0, none, 0, [], rfl, by omega, rfl, (fun x hx => by cases hx), hp2.out⟩
    case round =>
      clear hp2
      obtain ⟨i, ad3, cp3, K, rfl, hi, hKl, hK, hp⟩ := hrel
      replace hp := Lib.hid hp; replace hK := Lib.hid hK; replace hKl := Lib.hid hKl
      cases gk with
      | succ u =>
        have e1 : (i : Int) < (nn : Int) := by omega
        have e2 : (0 : Int) ≤ (i : Int) := by omega
        obtain ⟨_, _, hv, _, hz⟩ := hsE.out
        injection hv with hv1 hv2 hv3
        subst hv1
        obtain ⟨b, o, rfl, hr⟩ := hz.resolve_left (by omega)
        clear hz hv2 hv3
        obtain ⟨x, hx⟩ : ∃ x, E[i]? = some x := ⟨_, List.getElem?_eq_getElem (by have := hne.out; omega)⟩
        obtain ⟨hx1, hx2⟩ := hE2.out x (List.mem_of_getElem? hx)
        obtain ⟨xk, xv⟩ := x
        have hx1' : xk.size ≤ 2000000 := hx1
        have hx2' : xv.size ≤ 2000000 := hx2
        have hS : ∀ (rs : List Rs) (k : Nat) (W' : World), Hp w [] rs W' → k = k → W'.cell? ⟨b, o + i * 2, none⟩ = some (.string xk) ∧ W'.cell? ⟨b, o + i * 2 + 1, none⟩ = some (.string xv) := fun rs k W' h _ => ⟨(h.bel.cell hr.1).trans (enC_get hr hx).1, (h.bel.cell hr.1).trans (enC_get hr hx).2⟩
        obtain ⟨P, hP⟩ : ∃ P : Int, P = ((xv.size : Int) * 37).tmod 4200 := ⟨_, rfl⟩
        have hPr : 0 ≤ P ∧ P ≤ 4200 := by
          rw [hP, Int.tmod_eq_emod_of_nonneg (by omega)]; omega
        have wm : IntKind.i64.wrap ((xv.size : Int) * 37) = (xv.size : Int) * 37 := IntWalk.i64_in _ (by omega)
        have hsum := fun W => sum_any xv (by omega) W
        have hKn : ∀ u, u.size = 32 → SmU (K ++ [⟨xk, P, u⟩]) := fun u hu x hx => by
          rcases List.mem_append.1 hx with h | h
          · exact hK.out x h
          · rw [List.mem_singleton.1 h]
            exact ⟨hx1', hPr, hu⟩
        replace hS := Lib.hid hS; replace hsum := Lib.hid hsum; replace hKn := Lib.hid hKn
        replace hP := hP.symm
        clear hx hx1 hx2 hr
        go_upto_region 11 with fail
        replace hp := Lib.hid hp.out.drew
        refine wp_region_noPanic ?_; refine wp_region_held_drew (S := (fun W' => W'.cell? ⟨b, o + i * 2, none⟩ = some (.string xk) ∧ W'.cell? ⟨b, o + i * 2 + 1, none⟩ = some (.string xv))) (by kernel_rfl) ?_ (fun hHeld => ?_); (focus ((try dsimp only); (first | exact hS.out _ 3 _ hp.out rfl | exact hS.out _ 4 _ hp.out rfl); done))
        (refine take_t (i := 0) (d := 31) (oi := _) (v := ?_) rfl rfl (by kernel_rfl) (by kernel_rfl) (by kernel_rfl) (by rfl) ?_ (by assumption) ?_; rotate_left; (focus (intro w0 hSw; (try dsimp only at hSw); go_simp; (try with_reducible rfl); done)); ((try simp only [Act.put, List.setIfInBounds_toArray]); (try dsimp only [List.set_cons_zero, List.set_cons_succ]))); (refine take_t (i := 2) (d := 33) (oi := _) (v := ?_) rfl rfl (by kernel_rfl) (by kernel_rfl) (by kernel_rfl) (by rfl) ?_ (by assumption) ?_; rotate_left; (focus (intro w0 hSw; (try dsimp only at hSw); go_simp; (try with_reducible rfl); done)); ((try simp only [Act.put, List.setIfInBounds_toArray]); (try dsimp only [List.set_cons_zero, List.set_cons_succ]))); (refine take_t (i := 3) (d := 34) (oi := _) (v := ?_) rfl rfl (by kernel_rfl) (by kernel_rfl) (by kernel_rfl) (by rfl) ?_ (by assumption) ?_; rotate_left; (focus (intro w0 hSw; (try dsimp only at hSw); go_simp; (try with_reducible rfl); done)); ((try simp only [Act.put, List.setIfInBounds_toArray]); (try dsimp only [List.set_cons_zero, List.set_cons_succ]))); (refine take_t (i := 4) (d := 35) (oi := _) (v := ?_) rfl rfl (by kernel_rfl) (by kernel_rfl) (by kernel_rfl) (by rfl) ?_ (by assumption) ?_; rotate_left; (focus (intro w0 hSw; (try dsimp only at hSw); go_simp; (try with_reducible rfl); done)); ((try simp only [Act.put, List.setIfInBounds_toArray]); (try dsimp only [List.set_cons_zero, List.set_cons_succ]))); (refine take_t (i := 5) (d := 36) (oi := _) (v := ?_) rfl rfl (by kernel_rfl) (by kernel_rfl) (by kernel_rfl) (by rfl) ?_ (by assumption) ?_; rotate_left; (focus (intro w0 hSw; (try dsimp only at hSw); go_simp; (try with_reducible rfl); done)); ((try simp only [Act.put, List.setIfInBounds_toArray]); (try dsimp only [List.set_cons_zero, List.set_cons_succ]))); (refine take_t (i := 6) (d := 37) (oi := _) (v := ?_) rfl rfl (by kernel_rfl) (by kernel_rfl) (by kernel_rfl) (by rfl) ?_ (by assumption) ?_; rotate_left; (focus (intro w0 hSw; (try dsimp only at hSw); go_simp; (try with_reducible rfl); done)); ((try simp only [Act.put, List.setIfInBounds_toArray]); (try dsimp only [List.set_cons_zero, List.set_cons_succ]))); (refine take_t (i := 7) (d := 38) (oi := _) (v := ?_) rfl rfl (by kernel_rfl) (by kernel_rfl) (by kernel_rfl) (by rfl) ?_ (by assumption) ?_; rotate_left; (focus (intro w0 hSw; (try dsimp only at hSw); go_simp; (try with_reducible rfl); done)); ((try simp only [Act.put, List.setIfInBounds_toArray]); (try dsimp only [List.set_cons_zero, List.set_cons_succ]))); (refine take_t (i := 8) (d := 39) (oi := _) (v := ?_) rfl rfl (by kernel_rfl) (by kernel_rfl) (by kernel_rfl) (by rfl) ?_ (by assumption) ?_; rotate_left; (focus (intro w0 hSw; (try dsimp only at hSw); go_simp; (try with_reducible rfl); done)); ((try simp only [Act.put, List.setIfInBounds_toArray]); (try dsimp only [List.set_cons_zero, List.set_cons_succ]))); (refine take_t (i := 9) (d := 40) (oi := _) (v := ?_) rfl rfl (by kernel_rfl) (by kernel_rfl) (by kernel_rfl) (by rfl) ?_ (by assumption) ?_; rotate_left; (focus (intro w0 hSw; (try dsimp only at hSw); go_simp; (try with_reducible rfl); done)); ((try simp only [Act.put, List.setIfInBounds_toArray]); (try dsimp only [List.set_cons_zero, List.set_cons_succ]))); (refine take_t (i := 10) (d := 41) (oi := _) (v := ?_) rfl rfl (by kernel_rfl) (by kernel_rfl) (by kernel_rfl) (by rfl) ?_ (by assumption) ?_; rotate_left; (focus (intro w0 hSw; (try dsimp only at hSw); go_simp; (try with_reducible rfl); done)); ((try simp only [Act.put, List.setIfInBounds_toArray]); (try dsimp only [List.set_cons_zero, List.set_cons_succ]))); (refine take_t (i := 11) (d := 42) (oi := _) (v := ?_) rfl rfl (by kernel_rfl) (by kernel_rfl) (by kernel_rfl) (by rfl) ?_ (by assumption) ?_; rotate_left; (focus (intro w0 hSw; (try dsimp only at hSw); go_simp; (try with_reducible rfl); done)); ((try simp only [Act.put, List.setIfInBounds_toArray]); (try dsimp only [List.set_cons_zero, List.set_cons_succ]))); (refine take_t (i := 12) (d := 43) (oi := _) (v := ?_) rfl rfl (by kernel_rfl) (by kernel_rfl) (by kernel_rfl) (by rfl) ?_ (by assumption) ?_; rotate_left; (focus (intro w0 hSw; (try dsimp only at hSw); go_simp; (try with_reducible rfl); done)); ((try simp only [Act.put, List.setIfInBounds_toArray]); (try dsimp only [List.set_cons_zero, List.set_cons_succ]))); (refine take_t (i := 13) (d := 44) (oi := _) (v := ?_) rfl rfl (by kernel_rfl) (by kernel_rfl) (by kernel_rfl) (by rfl) ?_ (by assumption) ?_; rotate_left; (focus (intro w0 hSw; (try dsimp only at hSw); go_simp; (try with_reducible rfl); done)); ((try simp only [Act.put, List.setIfInBounds_toArray]); (try dsimp only [List.set_cons_zero, List.set_cons_succ]))); (refine take_t (i := 14) (d := 45) (oi := _) (v := ?_) rfl rfl (by kernel_rfl) (by kernel_rfl) (by kernel_rfl) (by rfl) ?_ (by assumption) ?_; rotate_left; (focus (intro w0 hSw; (try dsimp only at hSw); go_simp; (try with_reducible rfl); done)); ((try simp only [Act.put, List.setIfInBounds_toArray]); (try dsimp only [List.set_cons_zero, List.set_cons_succ]))); (refine take_t (i := 15) (d := 46) (oi := _) (v := ?_) rfl rfl (by kernel_rfl) (by kernel_rfl) (by kernel_rfl) (by rfl) ?_ (by assumption) ?_; rotate_left; (focus (intro w0 hSw; (try dsimp only at hSw); go_simp; (try with_reducible rfl); done)); ((try simp only [Act.put, List.setIfInBounds_toArray]); (try dsimp only [List.set_cons_zero, List.set_cons_succ]))); (refine take_t (i := 16) (d := 47) (oi := _) (v := ?_) rfl rfl (by kernel_rfl) (by kernel_rfl) (by kernel_rfl) (by rfl) ?_ (by assumption) ?_; rotate_left; (focus (intro w0 hSw; (try dsimp only at hSw); go_simp; (try with_reducible rfl); done)); ((try simp only [Act.put, List.setIfInBounds_toArray]); (try dsimp only [List.set_cons_zero, List.set_cons_succ]))); (refine take_t (i := 17) (d := 48) (oi := _) (v := ?_) rfl rfl (by kernel_rfl) (by kernel_rfl) (by kernel_rfl) (by rfl) ?_ (by assumption) ?_; rotate_left; (focus (intro w0 hSw; (try dsimp only at hSw); go_simp; (try with_reducible rfl); done)); ((try simp only [Act.put, List.setIfInBounds_toArray]); (try dsimp only [List.set_cons_zero, List.set_cons_succ]))); (refine take_t (i := 18) (d := 49) (oi := _) (v := ?_) rfl rfl (by kernel_rfl) (by kernel_rfl) (by kernel_rfl) (by rfl) ?_ (by assumption) ?_; rotate_left; (focus (intro w0 hSw; (try dsimp only at hSw); go_simp; (try with_reducible rfl); done)); ((try simp only [Act.put, List.setIfInBounds_toArray]); (try dsimp only [List.set_cons_zero, List.set_cons_succ]))); (refine take_t (i := 19) (d := 50) (oi := _) (v := ?_) rfl rfl (by kernel_rfl) (by kernel_rfl) (by kernel_rfl) (by rfl) ?_ (by assumption) ?_; rotate_left; (focus (intro w0 hSw; (try dsimp only at hSw); go_simp; (try with_reducible rfl); done)); ((try simp only [Act.put, List.setIfInBounds_toArray]); (try dsimp only [List.set_cons_zero, List.set_cons_succ])))
        have m1 := hp.out.cell (i := 0) rfl 1
        simp at m1
        refine wpAnyH_ready (rs := [1, 20]) (by kernel_rfl) (by simp) ?_; refine AllReadyH.cons (o := _) rfl (fun K' hK => ?_) (AllReadyH.cons (o := _) rfl (fun K' hK => ?_) AllReadyH.nil)
        · go_simp; (skip); (try dsimp only); refine hK.out _ _ ?_ (fun hHeld2 => ?_); (focus ((try dsimp only); (first | exact hS.out _ 3 _ hp.out rfl | exact hS.out _ 4 _ hp.out rfl); done)); clear hK K'; clear hHeld; have hHeld := hHeld2; clear hHeld2; ((try simp only [Act.put, List.setIfInBounds_toArray]); (try dsimp only [List.set_cons_zero, List.set_cons_succ]))
          (refine wpAnyH_ready (rs := [20]) (by kernel_rfl) (by simp) ?_; refine AllReadyH.cons (o := _) rfl (fun K' hK => ?_) AllReadyH.nil; go_simp; (go_at_call 14; (with_reducible refine (hsum.out _).mono ?_); rintro e w3 ⟨su, rfl, hsu, b3⟩; replace hp := Lib.hid (hp.out.below b3); clear b3; replace hsu := Lib.hid hsu); (try dsimp only); refine hK.out _ _ ?_ (fun hHeld2 => ?_); (focus ((try dsimp only); (first | exact hS.out _ 3 _ hp.out rfl | exact hS.out _ 4 _ hp.out rfl); done)); clear hK K'; clear hHeld; have hHeld := hHeld2; clear hHeld2; ((try simp only [Act.put, List.setIfInBounds_toArray]); (try dsimp only [List.set_cons_zero, List.set_cons_succ]))); (refine take_t (i := 21) (d := 52) (oi := _) (v := ?_) rfl rfl (by kernel_rfl) (by kernel_rfl) (by kernel_rfl) (by rfl) ?_ (by assumption) ?_; rotate_left; (focus (intro w0 hSw; (try dsimp only at hSw); go_simp; (try with_reducible rfl); done)); ((try simp only [Act.put, List.setIfInBounds_toArray]); (try dsimp only [List.set_cons_zero, List.set_cons_succ]))); (refine take_t (i := 22) (d := 53) (oi := _) (v := ?_) rfl rfl (by kernel_rfl) (by kernel_rfl) (by kernel_rfl) (by rfl) ?_ (by assumption) ?_; rotate_left; (focus (intro w0 hSw; (try dsimp only at hSw); go_simp; (try with_reducible rfl); done)); ((try simp only [Act.put, List.setIfInBounds_toArray]); (try dsimp only [List.set_cons_zero, List.set_cons_succ]))); (refine wpAnyH_ready (rs := [23]) (by kernel_rfl) (by simp) ?_; refine AllReadyH.cons (o := _) rfl (fun K' hK => ?_) AllReadyH.nil; go_simp; (replace hp := Lib.hid (hp.out.rowLit #[.string xk, .int .i64 P, .string su] 41 3 1 (by decide) rfl)); (try dsimp only); refine hK.out _ _ ?_ (fun hHeld2 => ?_); (focus ((try dsimp only); (first | exact hS.out _ 3 _ hp.out rfl | exact hS.out _ 4 _ hp.out rfl); done)); clear hK K'; clear hHeld; have hHeld := hHeld2; clear hHeld2; ((try simp only [Act.put, List.setIfInBounds_toArray]); (try dsimp only [List.set_cons_zero, List.set_cons_succ]))); (refine wpAnyH_ready (rs := [24]) (by kernel_rfl) (by simp) ?_; refine AllReadyH.cons (o := _) rfl (fun K' hK => ?_) AllReadyH.nil; (refine step_append_sl_hpk rfl _ _ rfl Try.underlying23 kInfo rfl (by decide) (by decide) hp.out 3 rfl rfl rfl (hp.out.sl (i := 0) rfl (by decide)) rfl (by intro u hu; simp at hu; rcases hu with rfl | rfl | rfl <;> rfl) (by omega) rfl (show kdC K ++ #[Value.string xk, .int .i64 P, .string su].toList = kdC (K ++ [⟨xk, P, su⟩]) by rw [kdC_append]; rfl) ?_; intro v6 w6 h6 hv6; replace hp := Lib.hid h6; clear h6; obtain ⟨ad6, cp6, rfl⟩ := hv6; have f1 := hp.out.free (i := 1) rfl 1; have c1 := hp.out.cell (i := 1) rfl 1; simp at c1); (try dsimp only); refine hK.out _ _ ?_ (fun hHeld2 => ?_); (focus ((try dsimp only); (first | exact hS.out _ 3 _ hp.out rfl | exact hS.out _ 4 _ hp.out rfl); done)); clear hK K'; clear hHeld; have hHeld := hHeld2; clear hHeld2; ((try simp only [Act.put, List.setIfInBounds_toArray]); (try dsimp only [List.set_cons_zero, List.set_cons_succ]))); (refine take_t (i := 25) (d := 56) (oi := _) (v := ?_) rfl rfl (by kernel_rfl) (by kernel_rfl) (by kernel_rfl) (by rfl) ?_ (by assumption) ?_; rotate_left; (focus (intro w0 hSw; (try dsimp only at hSw); go_simp; (try with_reducible rfl); done)); ((try simp only [Act.put, List.setIfInBounds_toArray]); (try dsimp only [List.set_cons_zero, List.set_cons_succ]))); (refine wpAnyH_ready (rs := [26]) (by kernel_rfl) (by simp) ?_; refine AllReadyH.cons (o := _) rfl (fun K' hK => ?_) AllReadyH.nil; go_simp; (replace hp := Lib.hid (hp.out.put (i := 1) rfl 1 (.slice ad6 (i + 1) cp6))); (try dsimp only); refine hK.out _ _ ?_ (fun hHeld2 => ?_); (focus ((try dsimp only); (first | exact hS.out _ 3 _ hp.out rfl | exact hS.out _ 4 _ hp.out rfl); done)); clear hK K'; clear hHeld; have hHeld := hHeld2; clear hHeld2; ((try simp only [Act.put, List.setIfInBounds_toArray]); (try dsimp only [List.set_cons_zero, List.set_cons_succ])))
          refine wpAnyH_done (by kernel_rfl) ?_ _; refine NoPanic.normal ?_
          go_wp2
          go_roundg u
          case rel => exact ⟨i + 1, ad6, cp6, K ++ [Kd.mk xk P su], by go_num, by omega, by simp; have := hKl.out; omega, hKn.out _ hsu.out, hp.out.drop 0⟩
          case measure => omega
        · go_simp; (go_at_call 14; (with_reducible refine (hsum.out _).mono ?_); rintro e w3 ⟨su, rfl, hsu, b3⟩; replace hp := Lib.hid (hp.out.below b3); clear b3; replace hsu := Lib.hid hsu; have m1 := hp.out.cell (i := 0) rfl 1; simp at m1); (try dsimp only); refine hK.out _ _ ?_ (fun hHeld2 => ?_); (focus ((try dsimp only); (first | exact hS.out _ 3 _ hp.out rfl | exact hS.out _ 4 _ hp.out rfl); done)); clear hK K'; clear hHeld; have hHeld := hHeld2; clear hHeld2; ((try simp only [Act.put, List.setIfInBounds_toArray]); (try dsimp only [List.set_cons_zero, List.set_cons_succ]))
          (refine take_t (i := 21) (d := 52) (oi := _) (v := ?_) rfl rfl (by kernel_rfl) (by kernel_rfl) (by kernel_rfl) (by rfl) ?_ (by assumption) ?_; rotate_left; (focus (intro w0 hSw; (try dsimp only at hSw); go_simp; (try with_reducible rfl); done)); ((try simp only [Act.put, List.setIfInBounds_toArray]); (try dsimp only [List.set_cons_zero, List.set_cons_succ]))); (refine take_t (i := 22) (d := 53) (oi := _) (v := ?_) rfl rfl (by kernel_rfl) (by kernel_rfl) (by kernel_rfl) (by rfl) ?_ (by assumption) ?_; rotate_left; (focus (intro w0 hSw; (try dsimp only at hSw); go_simp; (try with_reducible rfl); done)); ((try simp only [Act.put, List.setIfInBounds_toArray]); (try dsimp only [List.set_cons_zero, List.set_cons_succ])))
          refine wpAnyH_ready (rs := [1, 23]) (by kernel_rfl) (by simp) ?_; refine AllReadyH.cons (o := _) rfl (fun K' hK => ?_) (AllReadyH.cons (o := _) rfl (fun K' hK => ?_) AllReadyH.nil)
          · go_simp; (skip); (try dsimp only); refine hK.out _ _ ?_ (fun hHeld2 => ?_); (focus ((try dsimp only); (first | exact hS.out _ 3 _ hp.out rfl | exact hS.out _ 4 _ hp.out rfl); done)); clear hK K'; clear hHeld; have hHeld := hHeld2; clear hHeld2; ((try simp only [Act.put, List.setIfInBounds_toArray]); (try dsimp only [List.set_cons_zero, List.set_cons_succ]))
            (refine wpAnyH_ready (rs := [23]) (by kernel_rfl) (by simp) ?_; refine AllReadyH.cons (o := _) rfl (fun K' hK => ?_) AllReadyH.nil; go_simp; (replace hp := Lib.hid (hp.out.rowLit #[.string xk, .int .i64 P, .string su] 41 3 1 (by decide) rfl)); (try dsimp only); refine hK.out _ _ ?_ (fun hHeld2 => ?_); (focus ((try dsimp only); (first | exact hS.out _ 3 _ hp.out rfl | exact hS.out _ 4 _ hp.out rfl); done)); clear hK K'; clear hHeld; have hHeld := hHeld2; clear hHeld2; ((try simp only [Act.put, List.setIfInBounds_toArray]); (try dsimp only [List.set_cons_zero, List.set_cons_succ]))); (refine wpAnyH_ready (rs := [24]) (by kernel_rfl) (by simp) ?_; refine AllReadyH.cons (o := _) rfl (fun K' hK => ?_) AllReadyH.nil; (refine step_append_sl_hpk rfl _ _ rfl Try.underlying23 kInfo rfl (by decide) (by decide) hp.out 3 rfl rfl rfl (hp.out.sl (i := 0) rfl (by decide)) rfl (by intro u hu; simp at hu; rcases hu with rfl | rfl | rfl <;> rfl) (by omega) rfl (show kdC K ++ #[Value.string xk, .int .i64 P, .string su].toList = kdC (K ++ [⟨xk, P, su⟩]) by rw [kdC_append]; rfl) ?_; intro v6 w6 h6 hv6; replace hp := Lib.hid h6; clear h6; obtain ⟨ad6, cp6, rfl⟩ := hv6; have f1 := hp.out.free (i := 1) rfl 1; have c1 := hp.out.cell (i := 1) rfl 1; simp at c1); (try dsimp only); refine hK.out _ _ ?_ (fun hHeld2 => ?_); (focus ((try dsimp only); (first | exact hS.out _ 3 _ hp.out rfl | exact hS.out _ 4 _ hp.out rfl); done)); clear hK K'; clear hHeld; have hHeld := hHeld2; clear hHeld2; ((try simp only [Act.put, List.setIfInBounds_toArray]); (try dsimp only [List.set_cons_zero, List.set_cons_succ]))); (refine take_t (i := 25) (d := 56) (oi := _) (v := ?_) rfl rfl (by kernel_rfl) (by kernel_rfl) (by kernel_rfl) (by rfl) ?_ (by assumption) ?_; rotate_left; (focus (intro w0 hSw; (try dsimp only at hSw); go_simp; (try with_reducible rfl); done)); ((try simp only [Act.put, List.setIfInBounds_toArray]); (try dsimp only [List.set_cons_zero, List.set_cons_succ]))); (refine wpAnyH_ready (rs := [26]) (by kernel_rfl) (by simp) ?_; refine AllReadyH.cons (o := _) rfl (fun K' hK => ?_) AllReadyH.nil; go_simp; (replace hp := Lib.hid (hp.out.put (i := 1) rfl 1 (.slice ad6 (i + 1) cp6))); (try dsimp only); refine hK.out _ _ ?_ (fun hHeld2 => ?_); (focus ((try dsimp only); (first | exact hS.out _ 3 _ hp.out rfl | exact hS.out _ 4 _ hp.out rfl); done)); clear hK K'; clear hHeld; have hHeld := hHeld2; clear hHeld2; ((try simp only [Act.put, List.setIfInBounds_toArray]); (try dsimp only [List.set_cons_zero, List.set_cons_succ])))
            refine wpAnyH_done (by kernel_rfl) ?_ _; refine NoPanic.normal ?_
            go_wp2
            go_roundg u
            case rel => exact ⟨i + 1, ad6, cp6, K ++ [Kd.mk xk P su], by go_num, by omega, by simp; have := hKl.out; omega, hKn.out _ hsu.out, hp.out.drop 0⟩
            case measure => omega
          · go_simp; (replace hp := Lib.hid (hp.out.rowLit #[.string xk, .int .i64 P, .string su] 41 3 1 (by decide) rfl); have m1 := hp.out.cell (i := 1) rfl 1; simp at m1); (try dsimp only); refine hK.out _ _ ?_ (fun hHeld2 => ?_); (focus ((try dsimp only); (first | exact hS.out _ 3 _ hp.out rfl | exact hS.out _ 4 _ hp.out rfl); done)); clear hK K'; clear hHeld; have hHeld := hHeld2; clear hHeld2; ((try simp only [Act.put, List.setIfInBounds_toArray]); (try dsimp only [List.set_cons_zero, List.set_cons_succ]))
            (refine wpAnyH_ready (rs := [1]) (by kernel_rfl) (by simp) ?_; refine AllReadyH.cons (o := _) rfl (fun K' hK => ?_) AllReadyH.nil; go_simp; (skip); (try dsimp only); refine hK.out _ _ ?_ (fun hHeld2 => ?_); (focus ((try dsimp only); (first | exact hS.out _ 3 _ hp.out rfl | exact hS.out _ 4 _ hp.out rfl); done)); clear hK K'; clear hHeld; have hHeld := hHeld2; clear hHeld2; ((try simp only [Act.put, List.setIfInBounds_toArray]); (try dsimp only [List.set_cons_zero, List.set_cons_succ]))); (refine wpAnyH_ready (rs := [24]) (by kernel_rfl) (by simp) ?_; refine AllReadyH.cons (o := _) rfl (fun K' hK => ?_) AllReadyH.nil; (refine step_append_sl_hpk rfl _ _ rfl Try.underlying23 kInfo rfl (by decide) (by decide) hp.out 3 rfl rfl rfl (hp.out.sl (i := 0) rfl (by decide)) rfl (by intro u hu; simp at hu; rcases hu with rfl | rfl | rfl <;> rfl) (by omega) rfl (show kdC K ++ #[Value.string xk, .int .i64 P, .string su].toList = kdC (K ++ [⟨xk, P, su⟩]) by rw [kdC_append]; rfl) ?_; intro v6 w6 h6 hv6; replace hp := Lib.hid h6; clear h6; obtain ⟨ad6, cp6, rfl⟩ := hv6; have f1 := hp.out.free (i := 1) rfl 1; have c1 := hp.out.cell (i := 1) rfl 1; simp at c1); (try dsimp only); refine hK.out _ _ ?_ (fun hHeld2 => ?_); (focus ((try dsimp only); (first | exact hS.out _ 3 _ hp.out rfl | exact hS.out _ 4 _ hp.out rfl); done)); clear hK K'; clear hHeld; have hHeld := hHeld2; clear hHeld2; ((try simp only [Act.put, List.setIfInBounds_toArray]); (try dsimp only [List.set_cons_zero, List.set_cons_succ]))); (refine take_t (i := 25) (d := 56) (oi := _) (v := ?_) rfl rfl (by kernel_rfl) (by kernel_rfl) (by kernel_rfl) (by rfl) ?_ (by assumption) ?_; rotate_left; (focus (intro w0 hSw; (try dsimp only at hSw); go_simp; (try with_reducible rfl); done)); ((try simp only [Act.put, List.setIfInBounds_toArray]); (try dsimp only [List.set_cons_zero, List.set_cons_succ]))); (refine wpAnyH_ready (rs := [26]) (by kernel_rfl) (by simp) ?_; refine AllReadyH.cons (o := _) rfl (fun K' hK => ?_) AllReadyH.nil; go_simp; (replace hp := Lib.hid (hp.out.put (i := 1) rfl 1 (.slice ad6 (i + 1) cp6))); (try dsimp only); refine hK.out _ _ ?_ (fun hHeld2 => ?_); (focus ((try dsimp only); (first | exact hS.out _ 3 _ hp.out rfl | exact hS.out _ 4 _ hp.out rfl); done)); clear hK K'; clear hHeld; have hHeld := hHeld2; clear hHeld2; ((try simp only [Act.put, List.setIfInBounds_toArray]); (try dsimp only [List.set_cons_zero, List.set_cons_succ])))
            refine wpAnyH_done (by kernel_rfl) ?_ _; refine NoPanic.normal ?_
            go_wp2
            go_roundg u
            case rel => exact ⟨i + 1, ad6, cp6, K ++ [Kd.mk xk P su], by go_num, by omega, by simp; have := hKl.out; omega, hKn.out _ hsu.out, hp.out.drop 0⟩
            case measure => omega
      | zero =>
        obtain rfl : i = nn := by omega
        have e1 : ¬ (i : Int) < (i : Int) := by omega
        have c0 := hp.out.cell (i := 0) rfl 0; have c1 := hp.out.cell (i := 0) rfl 1
        have d0 := hp.out.cell (i := 1) rfl 0; have d1 := hp.out.cell (i := 1) rfl 1
        have k0 := hp.out.free (i := 1) rfl 0; have k1 := hp.out.free (i := 1) rfl 1
        simp at c0 c1 d0 d1
        have hp2 := Lib.hid ((hp.out.put (i := 1) rfl 0 (.slice none 0 0)).put (i := 1) rfl 1 (.slice ad3 i cp3))
        go_wp2
        (try simp only [Exit.inBlock, Exit.then])
        refine bodyPost_ret (v := .agg #[.slice none 0 0, .slice ad3 i cp3]) (results_cell_row rfl _ _ q6 25 #[.slice none 0 0, .slice ad3 i cp3] (0, 0) _ rfl (hp2.out.box (i := 1) rfl) Try.underlying25 rfl (by kernel_rfl)) rfl ?_
        exact ⟨_, _, [], K, rfl, ⟨by decide, fun x hx => by cases hx⟩, ⟨by have := hKl.out; omega, fun x hx => by have := hK.out x hx; exact ⟨this.1, ⟨this.2.1.1, by omega⟩, by omega⟩⟩, rfl, Sl.nil _, by rw [hKl.out]; exact hp2.out.sl (i := 2) rfl (by omega), hp2.out.bel⟩
end Go.Proofs.Ytcdgnhhciccoeaa.nod
