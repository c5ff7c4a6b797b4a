/- A page's bytes, as the document has them (lodestoneref17.Bytes). No condition but that there are few entries and pages, none of them too long. -/
import Derived.Test.YtcdgnhhciccoeaaNod2
import Derived.Deep.Cut
namespace Go.Proofs.Ytcdgnhhciccoeaa.nod
open Go.RowKit
open code (numL textL)
attribute [local go_sem ↓] Go.wp_at_zero Go.wp_at_succ
attribute [local go_sem] str_size str_append
set_option linter.unusedVariables false
set_option linter.unusedSimpArgs false
set_option maxRecDepth 100000

theorem rtext_any2 (s : ByteArray) (h : s.size ≤ 2000000) (w : World) : Calls Try.prog 20 #[.string s] w fun e w' => e = .returned (.string (str (txL s))) ∧ Below w.heap.size w w' := by
  have hz := bl_len s
  have := code.rtext_put s.data.toList (by omega) w
  rwa [txL_put] at this
set_option maxHeartbeats 32000000 in
theorem rbytes_any (ev kv : Value) (E : List En) (K : List Kd) (w : World) (he : Sl w ev E.length (enC E)) (hk : Sl w kv K.length (kdC K)) (hE : SmE E) (hK : SmK K) :
    Calls Try.prog 7 #[nodV ev kv] w fun e w' => e = .returned (.string (str (refB E K))) ∧ Below w.heap.size w w' := by
  have hp0 := (Hp.none_ w []).alloc #[ev, kv] 25
  obtain ⟨S, hS⟩ : ∃ S, S = refB E K := ⟨_, rfl⟩
  rw [← hS]
  obtain ⟨a, ac, rfl, _, h1⟩ := he
  obtain ⟨b, bc, rfl, _, h2⟩ := hk
  obtain ⟨ne, hne⟩ : ∃ n, n = E.length := ⟨_, rfl⟩
  obtain ⟨nk, hnk⟩ : ∃ n, n = K.length := ⟨_, rfl⟩
  have hE1 : ne ≤ 100 := by rw [hne]; exact hE.1
  have hK1 : nk ≤ 100 := by rw [hnk]; exact hK.1
  have hS0 : ne = 0 → S = (73 :: numL nk) ++ K.flatMap kidB := fun h => by rw [hS, hnk]; unfold refB; rw [if_pos (by omega)]
  have hS1 : 0 < ne → S = (76 :: numL ne) ++ E.flatMap entB := fun h => by rw [hS, hne]; unfold refB; rw [if_neg (by omega)]
  rw [← hne] at h1 hp0 ⊢
  rw [← hnk] at h2 hp0 ⊢
  have hnum : ∀ (n : Nat), n ≤ 100 → ∀ W, Calls Try.prog 19 #[.int .u64 (n : Int)] W fun e w' => e = .returned (.string (str (numL n))) ∧ Below W.heap.size W w' := fun n hn W => code.refNum_any n (by omega) W
  have hnl : ∀ (n : Nat), n ≤ 100 → (numL n).length ≤ 10 := fun n hn => code.numL_len64 n (by omega)
  have hmk : ∀ n, (⟨#[76]⟩ : ByteArray) ++ str (numL n) = str (76 :: numL n) := fun n => str_nil_app _ _
  have hmk2 : ∀ n, (⟨#[73]⟩ : ByteArray) ++ str (numL n) = str (73 :: numL n) := fun n => str_nil_app _ _
  have hms : (⟨#[76]⟩ : ByteArray).size = 1 := rfl
  have hms2 : (⟨#[73]⟩ : ByteArray).size = 1 := rfl
  replace h1 := Lib.hid h1; replace h2 := Lib.hid h2; replace hne := Lib.hid hne; replace hnk := Lib.hid hnk; replace hE := Lib.hid hE; replace hK := Lib.hid hK; replace hnum := Lib.hid hnum; replace hnl := Lib.hid hnl; replace hp0 := Lib.hid hp0; replace hS0 := Lib.hid hS0; replace hS1 := Lib.hid hS1
  clear hS
  unfold nodV
  go_enter Try.func7, Try.ntmps7
  go_upto_region 1 with fail
  generalize w.alloc _ = W at hp0 ⊢
  generalize hq : w.heap.size = q at hp0 ⊢
  clear hq
  have hcs : ∀ (W' : World), Hp w [] [.box q #[.slice a ne ac, .slice b nk bc] 25] W' → W'.cell? ⟨q, 0, none⟩ = some (.slice a ne ac) ∧ W'.cell? ⟨q, 1, none⟩ = some (.slice b nk bc) := fun W' h => ⟨(h.cell (i := 0) rfl 0).trans rfl, (h.cell (i := 0) rfl 1).trans rfl⟩
  replace hcs := Lib.hid hcs
  obtain ⟨c0, c1⟩ := hcs.out _ hp0.out
  by_cases h0 : ne = 0
  · have hSS := Lib.hid (hS0.out h0)
    have e1 : ¬ (0 : Int) < (ne : Int) := by omega
    have wn : IntKind.u64.wrap (nk : Int) = (nk : Int) := IntWalk.u64_in _ (by omega)
    have hr1 : ¬ 9223372036854775807 < 1 + (numL nk).length := by have := hnl.out nk hK1; omega
    have hn := Lib.hid (hnum.out nk hK1)
    have hl0 : (73 :: numL nk).length ≤ 11 := by have := hnl.out nk hK1; simp; omega
    replace hl0 := Lib.hid hl0
    clear h0
    go_upto_region 10 with (go_at_call 19; (with_reducible refine (hn.out _).mono ?_); rintro e w3 ⟨rfl, b3⟩; replace hp0 := Lib.hid (hp0.out.below b3); clear b3)
    clear c0 c1 e1
    obtain ⟨C0, hC0⟩ : ∃ C, C = 73 :: numL nk := ⟨_, rfl⟩
    rw [← hC0] at hl0 hSS
    have hp := hp0
    clear hp0
    replace hC0 := Lib.hid hC0
    obtain ⟨c0, c1⟩ := hcs.out _ hp.out
    go_upto_region 11 with fail
    clear c0 c1
    go_loopg [3, 5] nk (fun gm s3 s5 wr => ∃ (m : Nat) (F : List UInt8), s3 = .string (str F) ∧ s5 = .int .i64 (m : Int) ∧ m + gm = nk ∧ Hp w [] [.box q #[.slice a ne ac, .slice b nk bc] 25] wr ∧ F = C0 ++ (K.take m).flatMap kidB ∧ F.length ≤ 11 + m * 4000020)
    case atStart => exact ⟨0, C0, by rw [hC0.out], rfl, by omega, hp.out, by simp, by have := hl0.out; omega⟩
    case round =>
      clear hp
      obtain ⟨m, F, rfl, rfl, hmn, hp, hF, hFl⟩ := hrel
      replace hp := Lib.hid hp
      cases gk with
      | succ g =>
        have hjlt : (m : Int) < (nk : Int) := by omega
        have hj0 : (0 : Int) ≤ (m : Int) := by omega
        obtain ⟨bb, o, rfl, hrw⟩ := h2.out.resolve_left (by omega)
        obtain ⟨x, hx⟩ : ∃ x, K[m]? = some x := ⟨_, List.getElem?_eq_getElem (by have := hnk.out; omega)⟩
        obtain ⟨hx0, hx1, hx2⟩ := hK.out.2 x (List.mem_of_getElem? hx)
        have hEx : F ++ kidB x = C0 ++ (K.take (m + 1)).flatMap kidB := by rw [List.take_add_one, hx, hF]; simp
        obtain ⟨xl, xp, xs⟩ := x
        obtain ⟨A3, rfl⟩ : ∃ l, xs = str l := ⟨xs.data.toList, (txL_put xs).symm⟩
        have hds : ∀ W, Below w.heap.size w W → W.cell? ⟨bb, o + m * 3, none⟩ = some (.string xl) ∧ W.cell? ⟨bb, o + m * 3 + 1, none⟩ = some (.int .i64 xp) ∧ W.cell? ⟨bb, o + m * 3 + 2, none⟩ = some (.string (str A3)) := fun W hb =>
          ⟨(hb.cell hrw.1).trans (hrw.elem0 Kd.c_len hx rfl), (hb.cell hrw.1).trans (hrw.elem Kd.c_len hx rfl), (hb.cell hrw.1).trans (hrw.elem Kd.c_len hx rfl)⟩
        have hx0' : xl.size ≤ 2000000 := hx0
        have hx1' : 0 ≤ xp ∧ xp ≤ 9223372036854775807 := hx1
        have hx2' : (str A3).size ≤ 2000000 := hx2
        have n1 := fun W => rtext_any2 xl hx0' W
        have n2 : ∀ W, Calls Try.prog 19 #[.int .u64 xp] W fun e w' => e = .returned (.string (str (numL xp.toNat))) ∧ Below W.heap.size W w' := fun W => by have := code.refNum_any xp.toNat (by omega) W; rwa [show ((xp.toNat : Nat) : Int) = xp by omega] at this
        have wx : IntKind.u64.wrap xp = xp := IntWalk.u64_in _ (by omega)
        have l1 := txL_len xl hx0'
        have l2 := code.numL_len64 xp.toNat (by omega)
        have hpe : kidB ⟨xl, xp, str A3⟩ = txL xl ++ (numL xp.toNat ++ (str A3).data.toList) := rfl
        rw [hpe, str_toList] at hEx
        rw [str_size] at hx2'
        clear hpe
        generalize txL xl = A1 at n1 l1 hEx
        generalize numL xp.toNat = A2 at n2 l2 hEx
        have r1 : ¬ 9223372036854775807 < A1.length + A2.length := by omega
        have r2 : ¬ 9223372036854775807 < A1.length + A2.length + A3.length := by omega
        have r2b : ¬ 9223372036854775807 < A1.length + (A2.length + A3.length) := by omega
        have r3 : ¬ 9223372036854775807 < F.length + (A1.length + (A2.length + A3.length)) := by omega
        have r4 : ¬ 9223372036854775807 < F.length + (A1.length + A2.length + A3.length) := by omega
        have hl2 : (F ++ (A1 ++ (A2 ++ A3))).length ≤ 11 + (m + 1) * 4000020 := by rw [List.length_append, List.length_append, List.length_append]; omega
        replace n1 := Lib.hid n1; replace n2 := Lib.hid n2; replace hEx := Lib.hid hEx; replace hl2 := Lib.hid hl2; replace hds := Lib.hid hds
        clear hx hrw hF hFl hx0 hx1 hx2 hx0' hx1' hx2' l1 l2
        obtain ⟨c0, c1⟩ := hcs.out _ hp.out
        go_upto_region 13 with fail
        clear c0 c1
        have hd := Lib.hid hp.out.drew
        have hbs : ∀ W', Hp w [] [.box q #[.slice a ne ac, .slice (some ⟨bb, o, none⟩) nk bc] 25] W' → W'.cell? ⟨q, 1, none⟩ = some (.slice (some ⟨bb, o, none⟩) nk bc) ∧ W'.cell? ⟨bb, o + m * 3, none⟩ = some (.string xl) ∧ W'.cell? ⟨bb, o + m * 3 + 1, none⟩ = some (.int .i64 xp) ∧ W'.cell? ⟨bb, o + m * 3 + 2, none⟩ = some (.string (str A3)) := fun W' h => ⟨(h.cell (i := 0) rfl 1).trans rfl, hds.out _ h.bel⟩
        replace hbs := Lib.hid hbs
        refine wp_region_noPanic ?_; refine wp_region_held_drew (S := (fun W' => W'.cell? ⟨q, 1, none⟩ = some (.slice (some ⟨bb, o, none⟩) nk bc) ∧ W'.cell? ⟨bb, o + m * 3, none⟩ = some (.string xl) ∧ W'.cell? ⟨bb, o + m * 3 + 1, none⟩ = some (.int .i64 xp) ∧ W'.cell? ⟨bb, o + m * 3 + 2, none⟩ = some (.string (str A3)))) (by kernel_rfl) ?_ (fun hHeld => ?_); (focus ((try dsimp only); exact hbs.out _ hd.out; done)); (refine take_t (i := 0) (d := 54) (oi := _) (v := ?_) rfl rfl (by kernel_rfl) (by kernel_rfl) (by kernel_rfl) (by rfl) ?_ (by assumption) ?_; rotate_left; (focus (intro w0 hSw; (try dsimp only at hSw); go_simp; (try with_reducible rfl); done)); ((try simp only [Act.put, List.setIfInBounds_toArray]); (try dsimp only [List.set_cons_zero, List.set_cons_succ]))); (refine take_t (i := 1) (d := 55) (oi := _) (v := ?_) rfl rfl (by kernel_rfl) (by kernel_rfl) (by kernel_rfl) (by rfl) ?_ (by assumption) ?_; rotate_left; (focus (intro w0 hSw; (try dsimp only at hSw); go_simp; (try with_reducible rfl); done)); ((try simp only [Act.put, List.setIfInBounds_toArray]); (try dsimp only [List.set_cons_zero, List.set_cons_succ]))); (refine take_t (i := 2) (d := 56) (oi := _) (v := ?_) rfl rfl (by kernel_rfl) (by kernel_rfl) (by kernel_rfl) (by rfl) ?_ (by assumption) ?_; rotate_left; (focus (intro w0 hSw; (try dsimp only at hSw); go_simp; (try with_reducible rfl); done)); ((try simp only [Act.put, List.setIfInBounds_toArray]); (try dsimp only [List.set_cons_zero, List.set_cons_succ]))); (refine take_t (i := 3) (d := 57) (oi := _) (v := ?_) rfl rfl (by kernel_rfl) (by kernel_rfl) (by kernel_rfl) (by rfl) ?_ (by assumption) ?_; rotate_left; (focus (intro w0 hSw; (try dsimp only at hSw); go_simp; (try with_reducible rfl); done)); ((try simp only [Act.put, List.setIfInBounds_toArray]); (try dsimp only [List.set_cons_zero, List.set_cons_succ]))); (refine take_t (i := 4) (d := 58) (oi := _) (v := ?_) rfl rfl (by kernel_rfl) (by kernel_rfl) (by kernel_rfl) (by rfl) ?_ (by assumption) ?_; rotate_left; (focus (intro w0 hSw; (try dsimp only at hSw); go_simp; (try with_reducible rfl); done)); ((try simp only [Act.put, List.setIfInBounds_toArray]); (try dsimp only [List.set_cons_zero, List.set_cons_succ]))); (refine take_t (i := 5) (d := 59) (oi := _) (v := ?_) rfl rfl (by kernel_rfl) (by kernel_rfl) (by kernel_rfl) (by rfl) ?_ (by assumption) ?_; rotate_left; (focus (intro w0 hSw; (try dsimp only at hSw); go_simp; (try with_reducible rfl); done)); ((try simp only [Act.put, List.setIfInBounds_toArray]); (try dsimp only [List.set_cons_zero, List.set_cons_succ]))); (refine take_t (i := 6) (d := 60) (oi := _) (v := ?_) rfl rfl (by kernel_rfl) (by kernel_rfl) (by kernel_rfl) (by rfl) ?_ (by assumption) ?_; rotate_left; (focus (intro w0 hSw; (try dsimp only at hSw); go_simp; (try with_reducible rfl); done)); ((try simp only [Act.put, List.setIfInBounds_toArray]); (try dsimp only [List.set_cons_zero, List.set_cons_succ]))); (refine take_t (i := 8) (d := 62) (oi := _) (v := ?_) rfl rfl (by kernel_rfl) (by kernel_rfl) (by kernel_rfl) (by rfl) ?_ (by assumption) ?_; rotate_left; (focus (intro w0 hSw; (try dsimp only at hSw); go_simp; (try with_reducible rfl); done)); ((try simp only [Act.put, List.setIfInBounds_toArray]); (try dsimp only [List.set_cons_zero, List.set_cons_succ]))); (refine take_t (i := 9) (d := 63) (oi := _) (v := ?_) rfl rfl (by kernel_rfl) (by kernel_rfl) (by kernel_rfl) (by rfl) ?_ (by assumption) ?_; rotate_left; (focus (intro w0 hSw; (try dsimp only at hSw); go_simp; (try with_reducible rfl); done)); ((try simp only [Act.put, List.setIfInBounds_toArray]); (try dsimp only [List.set_cons_zero, List.set_cons_succ]))); (refine take_t (i := 10) (d := 64) (oi := _) (v := ?_) rfl rfl (by kernel_rfl) (by kernel_rfl) (by kernel_rfl) (by rfl) ?_ (by assumption) ?_; rotate_left; (focus (intro w0 hSw; (try dsimp only at hSw); go_simp; (try with_reducible rfl); done)); ((try simp only [Act.put, List.setIfInBounds_toArray]); (try dsimp only [List.set_cons_zero, List.set_cons_succ]))); (refine take_t (i := 11) (d := 65) (oi := _) (v := ?_) rfl rfl (by kernel_rfl) (by kernel_rfl) (by kernel_rfl) (by rfl) ?_ (by assumption) ?_; rotate_left; (focus (intro w0 hSw; (try dsimp only at hSw); go_simp; (try with_reducible rfl); done)); ((try simp only [Act.put, List.setIfInBounds_toArray]); (try dsimp only [List.set_cons_zero, List.set_cons_succ]))); (refine take_t (i := 12) (d := 66) (oi := _) (v := ?_) rfl rfl (by kernel_rfl) (by kernel_rfl) (by kernel_rfl) (by rfl) ?_ (by assumption) ?_; rotate_left; (focus (intro w0 hSw; (try dsimp only at hSw); go_simp; (try with_reducible rfl); done)); ((try simp only [Act.put, List.setIfInBounds_toArray]); (try dsimp only [List.set_cons_zero, List.set_cons_succ]))); (refine take_t (i := 13) (d := 67) (oi := _) (v := ?_) rfl rfl (by kernel_rfl) (by kernel_rfl) (by kernel_rfl) (by rfl) ?_ (by assumption) ?_; rotate_left; (focus (intro w0 hSw; (try dsimp only at hSw); go_simp; (try with_reducible rfl); done)); ((try simp only [Act.put, List.setIfInBounds_toArray]); (try dsimp only [List.set_cons_zero, List.set_cons_succ]))); (refine take_t (i := 14) (d := 68) (oi := _) (v := ?_) rfl rfl (by kernel_rfl) (by kernel_rfl) (by kernel_rfl) (by rfl) ?_ (by assumption) ?_; rotate_left; (focus (intro w0 hSw; (try dsimp only at hSw); go_simp; (try with_reducible rfl); done)); ((try simp only [Act.put, List.setIfInBounds_toArray]); (try dsimp only [List.set_cons_zero, List.set_cons_succ]))); (refine take_t (i := 15) (d := 69) (oi := _) (v := ?_) rfl rfl (by kernel_rfl) (by kernel_rfl) (by kernel_rfl) (by rfl) ?_ (by assumption) ?_; rotate_left; (focus (intro w0 hSw; (try dsimp only at hSw); go_simp; (try with_reducible rfl); done)); ((try simp only [Act.put, List.setIfInBounds_toArray]); (try dsimp only [List.set_cons_zero, List.set_cons_succ]))); (refine take_t (i := 18) (d := 72) (oi := _) (v := ?_) rfl rfl (by kernel_rfl) (by kernel_rfl) (by kernel_rfl) (by rfl) ?_ (by assumption) ?_; rotate_left; (focus (intro w0 hSw; (try dsimp only at hSw); go_simp; (try with_reducible rfl); done)); ((try simp only [Act.put, List.setIfInBounds_toArray]); (try dsimp only [List.set_cons_zero, List.set_cons_succ]))); (refine take_t (i := 19) (d := 73) (oi := _) (v := ?_) rfl rfl (by kernel_rfl) (by kernel_rfl) (by kernel_rfl) (by rfl) ?_ (by assumption) ?_; rotate_left; (focus (intro w0 hSw; (try dsimp only at hSw); go_simp; (try with_reducible rfl); done)); ((try simp only [Act.put, List.setIfInBounds_toArray]); (try dsimp only [List.set_cons_zero, List.set_cons_succ]))); (refine take_t (i := 20) (d := 74) (oi := _) (v := ?_) rfl rfl (by kernel_rfl) (by kernel_rfl) (by kernel_rfl) (by rfl) ?_ (by assumption) ?_; rotate_left; (focus (intro w0 hSw; (try dsimp only at hSw); go_simp; (try with_reducible rfl); done)); ((try simp only [Act.put, List.setIfInBounds_toArray]); (try dsimp only [List.set_cons_zero, List.set_cons_succ]))); (refine take_t (i := 21) (d := 75) (oi := _) (v := ?_) rfl rfl (by kernel_rfl) (by kernel_rfl) (by kernel_rfl) (by rfl) ?_ (by assumption) ?_; rotate_left; (focus (intro w0 hSw; (try dsimp only at hSw); go_simp; (try with_reducible rfl); done)); ((try simp only [Act.put, List.setIfInBounds_toArray]); (try dsimp only [List.set_cons_zero, List.set_cons_succ]))); (refine take_t (i := 22) (d := 76) (oi := _) (v := ?_) rfl rfl (by kernel_rfl) (by kernel_rfl) (by kernel_rfl) (by rfl) ?_ (by assumption) ?_; rotate_left; (focus (intro w0 hSw; (try dsimp only at hSw); go_simp; (try with_reducible rfl); done)); ((try simp only [Act.put, List.setIfInBounds_toArray]); (try dsimp only [List.set_cons_zero, List.set_cons_succ]))); (refine take_t (i := 23) (d := 77) (oi := _) (v := ?_) rfl rfl (by kernel_rfl) (by kernel_rfl) (by kernel_rfl) (by rfl) ?_ (by assumption) ?_; rotate_left; (focus (intro w0 hSw; (try dsimp only at hSw); go_simp; (try with_reducible rfl); done)); ((try simp only [Act.put, List.setIfInBounds_toArray]); (try dsimp only [List.set_cons_zero, List.set_cons_succ]))); (refine take_t (i := 24) (d := 78) (oi := _) (v := ?_) rfl rfl (by kernel_rfl) (by kernel_rfl) (by kernel_rfl) (by rfl) ?_ (by assumption) ?_; rotate_left; (focus (intro w0 hSw; (try dsimp only at hSw); go_simp; (try with_reducible rfl); done)); ((try simp only [Act.put, List.setIfInBounds_toArray]); (try dsimp only [List.set_cons_zero, List.set_cons_succ]))); (refine wpAnyH_ready (rs := [7]) (by kernel_rfl) (by simp) ?_; refine AllReadyH.cons (o := _) rfl (fun K' hK => ?_) AllReadyH.nil; go_simp; (go_at_call 20; (with_reducible refine (n1.out _).mono ?_); rintro e w2 ⟨rfl, b2⟩; replace hd := Lib.hid (hd.out.below b2); clear b2); (try dsimp only); refine hK.out _ _ ?_ (fun hHeld2 => ?_); (focus ((try dsimp only); exact hbs.out _ hd.out; done)); clear hK K'; clear hHeld; have hHeld := hHeld2; clear hHeld2; ((try simp only [Act.put, List.setIfInBounds_toArray]); (try dsimp only [List.set_cons_zero, List.set_cons_succ]))); (refine wpAnyH_ready (rs := [16]) (by kernel_rfl) (by simp) ?_; refine AllReadyH.cons (o := _) rfl (fun K' hK => ?_) AllReadyH.nil; go_simp; (go_at_call 19; (with_reducible refine (n2.out _).mono ?_); rintro e w2 ⟨rfl, b2⟩; replace hd := Lib.hid (hd.out.below b2); clear b2); (try dsimp only); refine hK.out _ _ ?_ (fun hHeld2 => ?_); (focus ((try dsimp only); exact hbs.out _ hd.out; done)); clear hK K'; clear hHeld; have hHeld := hHeld2; clear hHeld2; ((try simp only [Act.put, List.setIfInBounds_toArray]); (try dsimp only [List.set_cons_zero, List.set_cons_succ]))); (refine take_t (i := 17) (d := 71) (oi := _) (v := ?_) rfl rfl (by kernel_rfl) (by kernel_rfl) (by kernel_rfl) (by rfl) ?_ (by assumption) ?_; rotate_left; (focus (intro w0 hSw; (try dsimp only at hSw); go_simp; (try with_reducible rfl); done)); ((try simp only [Act.put, List.setIfInBounds_toArray]); (try dsimp only [List.set_cons_zero, List.set_cons_succ]))); (refine take_t (i := 25) (d := 79) (oi := _) (v := ?_) rfl rfl (by kernel_rfl) (by kernel_rfl) (by kernel_rfl) (by rfl) ?_ (by assumption) ?_; rotate_left; (focus (intro w0 hSw; (try dsimp only at hSw); go_simp; (try with_reducible rfl); done)); ((try simp only [Act.put, List.setIfInBounds_toArray]); (try dsimp only [List.set_cons_zero, List.set_cons_succ]))); (refine take_t (i := 26) (d := 80) (oi := _) (v := ?_) rfl rfl (by kernel_rfl) (by kernel_rfl) (by kernel_rfl) (by rfl) ?_ (by assumption) ?_; rotate_left; (focus (intro w0 hSw; (try dsimp only at hSw); go_simp; (try with_reducible rfl); done)); ((try simp only [Act.put, List.setIfInBounds_toArray]); (try dsimp only [List.set_cons_zero, List.set_cons_succ]))); (refine take_t (i := 27) (d := 3) (oi := _) (v := ?_) rfl rfl (by kernel_rfl) (by kernel_rfl) (by kernel_rfl) (by rfl) ?_ (by assumption) ?_; rotate_left; (focus (intro w0 hSw; (try dsimp only at hSw); go_simp; (try with_reducible rfl); done)); ((try simp only [Act.put, List.setIfInBounds_toArray]); (try dsimp only [List.set_cons_zero, List.set_cons_succ]))); refine wpAnyH_done (by kernel_rfl) ?_ _; refine NoPanic.normal ?_
        go_wp2
        go_roundg g
        case rel => exact ⟨m + 1, _, rfl, by go_num, by omega, hd.out, hEx.out, hl2.out⟩
        case measure => omega
      | zero =>
        obtain rfl : m = nk := by omega
        have hjlt2 : ¬ ((m : Int) < (m : Int)) := by omega
        have hFS : F = S := by rw [hF, List.take_of_length_le (by rw [← hnk.out]; exact Nat.le_refl _), hSS.out]
        replace hFS := Lib.hid hFS
        obtain ⟨c0, c1⟩ := hcs.out _ hp.out
        clear hF hFl
        go_wp2
        go_ret
        exact ⟨by rw [hFS.out]; rfl, hp.out.bel⟩
  · have hSS := Lib.hid (hS1.out (by omega))
    have e1 : (0 : Int) < (ne : Int) := by omega
    have wn : IntKind.u64.wrap (ne : Int) = (ne : Int) := IntWalk.u64_in _ (by omega)
    have hr1 : ¬ 9223372036854775807 < 1 + (numL ne).length := by have := hnl.out ne hE1; omega
    have hn := Lib.hid (hnum.out ne hE1)
    have hl0 : (76 :: numL ne).length ≤ 11 := by have := hnl.out ne hE1; simp; omega
    replace hl0 := Lib.hid hl0
    clear h0
    go_upto_region 4 with (go_at_call 19; (with_reducible refine (hn.out _).mono ?_); rintro e w3 ⟨rfl, b3⟩; replace hp0 := Lib.hid (hp0.out.below b3); clear b3)
    clear c0 c1 e1
    obtain ⟨C0, hC0⟩ : ∃ C, C = 76 :: numL ne := ⟨_, rfl⟩
    rw [← hC0] at hl0 hSS
    have hp := hp0
    clear hp0
    replace hC0 := Lib.hid hC0
    obtain ⟨c0, c1⟩ := hcs.out _ hp.out
    go_upto_region 5 with fail
    clear c0 c1
    go_loopg [3, 4] ne (fun gm s3 s4 wr => ∃ (m : Nat) (F : List UInt8), s3 = .string (str F) ∧ s4 = .int .i64 (m : Int) ∧ m + gm = ne ∧ Hp w [] [.box q #[.slice a ne ac, .slice b nk bc] 25] wr ∧ F = C0 ++ (E.take m).flatMap entB ∧ F.length ≤ 11 + m * 4000020)
    case atStart => exact ⟨0, C0, by rw [hC0.out], rfl, by omega, hp.out, by simp, by have := hl0.out; omega⟩
    case round =>
      clear hp
      obtain ⟨m, F, rfl, rfl, hmn, hp, hF, hFl⟩ := hrel
      replace hp := Lib.hid hp
      cases gk with
      | succ g =>
        have hjlt : (m : Int) < (ne : Int) := by omega
        have hj0 : (0 : Int) ≤ (m : Int) := by omega
        obtain ⟨bb, o, rfl, hrw⟩ := h1.out.resolve_left (by omega)
        obtain ⟨x, hx⟩ : ∃ x, E[m]? = some x := ⟨_, List.getElem?_eq_getElem (by have := hne.out; omega)⟩
        obtain ⟨hx0, hx1⟩ := hE.out.2 x (List.mem_of_getElem? hx)
        have hEx : F ++ entB x = C0 ++ (E.take (m + 1)).flatMap entB := by rw [List.take_add_one, hx, hF]; simp
        obtain ⟨xk, xv⟩ := x
        have hds : ∀ W, Below w.heap.size w W → W.cell? ⟨bb, o + m * 2, none⟩ = some (.string xk) ∧ W.cell? ⟨bb, o + m * 2 + 1, none⟩ = some (.string xv) := fun W hb =>
          ⟨(hb.cell hrw.1).trans (hrw.elem0 En.c_len hx rfl), (hb.cell hrw.1).trans (hrw.elem En.c_len hx rfl)⟩
        have hx0' : xk.size ≤ 2000000 := hx0
        have hx1' : xv.size ≤ 2000000 := hx1
        have n1 := fun W => rtext_any2 xk hx0' W
        have n2 := fun W => rtext_any2 xv hx1' W
        have l1 := txL_len xk hx0'
        have l2 := txL_len xv hx1'
        have hpe : entB ⟨xk, xv⟩ = txL xk ++ txL xv := rfl
        rw [hpe] at hEx
        clear hpe
        generalize txL xk = A1 at n1 l1 hEx
        generalize txL xv = A2 at n2 l2 hEx
        have r1 : ¬ 9223372036854775807 < A1.length + A2.length := by omega
        have r3 : ¬ 9223372036854775807 < F.length + (A1.length + A2.length) := by omega
        have hl2 : (F ++ (A1 ++ A2)).length ≤ 11 + (m + 1) * 4000020 := by rw [List.length_append, List.length_append]; omega
        replace n1 := Lib.hid n1; replace n2 := Lib.hid n2; replace hEx := Lib.hid hEx; replace hl2 := Lib.hid hl2; replace hds := Lib.hid hds
        clear hx hrw hF hFl hx0 hx1 hx0' hx1' l1 l2
        obtain ⟨c0, c1⟩ := hcs.out _ hp.out
        go_upto_region 7 with fail
        clear c0 c1
        have hd := Lib.hid hp.out.drew
        have hbs : ∀ W', Hp w [] [.box q #[.slice (some ⟨bb, o, none⟩) ne ac, .slice b nk bc] 25] W' → W'.cell? ⟨q, 0, none⟩ = some (.slice (some ⟨bb, o, none⟩) ne ac) ∧ W'.cell? ⟨bb, o + m * 2, none⟩ = some (.string xk) ∧ W'.cell? ⟨bb, o + m * 2 + 1, none⟩ = some (.string xv) := fun W' h => ⟨(h.cell (i := 0) rfl 0).trans rfl, hds.out _ h.bel⟩
        replace hbs := Lib.hid hbs
        refine wp_region_noPanic ?_; refine wp_region_held_drew (S := (fun W' => W'.cell? ⟨q, 0, none⟩ = some (.slice (some ⟨bb, o, none⟩) ne ac) ∧ W'.cell? ⟨bb, o + m * 2, none⟩ = some (.string xk) ∧ W'.cell? ⟨bb, o + m * 2 + 1, none⟩ = some (.string xv))) (by kernel_rfl) ?_ (fun hHeld => ?_); (focus ((try dsimp only); exact hbs.out _ hd.out; done)); (refine take_t (i := 0) (d := 23) (oi := _) (v := ?_) rfl rfl (by kernel_rfl) (by kernel_rfl) (by kernel_rfl) (by rfl) ?_ (by assumption) ?_; rotate_left; (focus (intro w0 hSw; (try dsimp only at hSw); go_simp; (try with_reducible rfl); done)); ((try simp only [Act.put, List.setIfInBounds_toArray]); (try dsimp only [List.set_cons_zero, List.set_cons_succ]))); (refine take_t (i := 1) (d := 24) (oi := _) (v := ?_) rfl rfl (by kernel_rfl) (by kernel_rfl) (by kernel_rfl) (by rfl) ?_ (by assumption) ?_; rotate_left; (focus (intro w0 hSw; (try dsimp only at hSw); go_simp; (try with_reducible rfl); done)); ((try simp only [Act.put, List.setIfInBounds_toArray]); (try dsimp only [List.set_cons_zero, List.set_cons_succ]))); (refine take_t (i := 2) (d := 25) (oi := _) (v := ?_) rfl rfl (by kernel_rfl) (by kernel_rfl) (by kernel_rfl) (by rfl) ?_ (by assumption) ?_; rotate_left; (focus (intro w0 hSw; (try dsimp only at hSw); go_simp; (try with_reducible rfl); done)); ((try simp only [Act.put, List.setIfInBounds_toArray]); (try dsimp only [List.set_cons_zero, List.set_cons_succ]))); (refine take_t (i := 3) (d := 26) (oi := _) (v := ?_) rfl rfl (by kernel_rfl) (by kernel_rfl) (by kernel_rfl) (by rfl) ?_ (by assumption) ?_; rotate_left; (focus (intro w0 hSw; (try dsimp only at hSw); go_simp; (try with_reducible rfl); done)); ((try simp only [Act.put, List.setIfInBounds_toArray]); (try dsimp only [List.set_cons_zero, List.set_cons_succ]))); (refine take_t (i := 4) (d := 27) (oi := _) (v := ?_) rfl rfl (by kernel_rfl) (by kernel_rfl) (by kernel_rfl) (by rfl) ?_ (by assumption) ?_; rotate_left; (focus (intro w0 hSw; (try dsimp only at hSw); go_simp; (try with_reducible rfl); done)); ((try simp only [Act.put, List.setIfInBounds_toArray]); (try dsimp only [List.set_cons_zero, List.set_cons_succ]))); (refine take_t (i := 5) (d := 28) (oi := _) (v := ?_) rfl rfl (by kernel_rfl) (by kernel_rfl) (by kernel_rfl) (by rfl) ?_ (by assumption) ?_; rotate_left; (focus (intro w0 hSw; (try dsimp only at hSw); go_simp; (try with_reducible rfl); done)); ((try simp only [Act.put, List.setIfInBounds_toArray]); (try dsimp only [List.set_cons_zero, List.set_cons_succ]))); (refine take_t (i := 6) (d := 29) (oi := _) (v := ?_) rfl rfl (by kernel_rfl) (by kernel_rfl) (by kernel_rfl) (by rfl) ?_ (by assumption) ?_; rotate_left; (focus (intro w0 hSw; (try dsimp only at hSw); go_simp; (try with_reducible rfl); done)); ((try simp only [Act.put, List.setIfInBounds_toArray]); (try dsimp only [List.set_cons_zero, List.set_cons_succ]))); (refine take_t (i := 8) (d := 31) (oi := _) (v := ?_) rfl rfl (by kernel_rfl) (by kernel_rfl) (by kernel_rfl) (by rfl) ?_ (by assumption) ?_; rotate_left; (focus (intro w0 hSw; (try dsimp only at hSw); go_simp; (try with_reducible rfl); done)); ((try simp only [Act.put, List.setIfInBounds_toArray]); (try dsimp only [List.set_cons_zero, List.set_cons_succ]))); (refine take_t (i := 9) (d := 32) (oi := _) (v := ?_) rfl rfl (by kernel_rfl) (by kernel_rfl) (by kernel_rfl) (by rfl) ?_ (by assumption) ?_; rotate_left; (focus (intro w0 hSw; (try dsimp only at hSw); go_simp; (try with_reducible rfl); done)); ((try simp only [Act.put, List.setIfInBounds_toArray]); (try dsimp only [List.set_cons_zero, List.set_cons_succ]))); (refine take_t (i := 10) (d := 33) (oi := _) (v := ?_) rfl rfl (by kernel_rfl) (by kernel_rfl) (by kernel_rfl) (by rfl) ?_ (by assumption) ?_; rotate_left; (focus (intro w0 hSw; (try dsimp only at hSw); go_simp; (try with_reducible rfl); done)); ((try simp only [Act.put, List.setIfInBounds_toArray]); (try dsimp only [List.set_cons_zero, List.set_cons_succ]))); (refine take_t (i := 11) (d := 34) (oi := _) (v := ?_) rfl rfl (by kernel_rfl) (by kernel_rfl) (by kernel_rfl) (by rfl) ?_ (by assumption) ?_; rotate_left; (focus (intro w0 hSw; (try dsimp only at hSw); go_simp; (try with_reducible rfl); done)); ((try simp only [Act.put, List.setIfInBounds_toArray]); (try dsimp only [List.set_cons_zero, List.set_cons_succ]))); (refine take_t (i := 12) (d := 35) (oi := _) (v := ?_) rfl rfl (by kernel_rfl) (by kernel_rfl) (by kernel_rfl) (by rfl) ?_ (by assumption) ?_; rotate_left; (focus (intro w0 hSw; (try dsimp only at hSw); go_simp; (try with_reducible rfl); done)); ((try simp only [Act.put, List.setIfInBounds_toArray]); (try dsimp only [List.set_cons_zero, List.set_cons_succ]))); (refine take_t (i := 13) (d := 36) (oi := _) (v := ?_) rfl rfl (by kernel_rfl) (by kernel_rfl) (by kernel_rfl) (by rfl) ?_ (by assumption) ?_; rotate_left; (focus (intro w0 hSw; (try dsimp only at hSw); go_simp; (try with_reducible rfl); done)); ((try simp only [Act.put, List.setIfInBounds_toArray]); (try dsimp only [List.set_cons_zero, List.set_cons_succ]))); (refine wpAnyH_ready (rs := [7]) (by kernel_rfl) (by simp) ?_; refine AllReadyH.cons (o := _) rfl (fun K' hK => ?_) AllReadyH.nil; go_simp; (go_at_call 20; (with_reducible refine (n1.out _).mono ?_); rintro e w2 ⟨rfl, b2⟩; replace hd := Lib.hid (hd.out.below b2); clear b2); (try dsimp only); refine hK.out _ _ ?_ (fun hHeld2 => ?_); (focus ((try dsimp only); exact hbs.out _ hd.out; done)); clear hK K'; clear hHeld; have hHeld := hHeld2; clear hHeld2; ((try simp only [Act.put, List.setIfInBounds_toArray]); (try dsimp only [List.set_cons_zero, List.set_cons_succ]))); (refine wpAnyH_ready (rs := [14]) (by kernel_rfl) (by simp) ?_; refine AllReadyH.cons (o := _) rfl (fun K' hK => ?_) AllReadyH.nil; go_simp; (go_at_call 20; (with_reducible refine (n2.out _).mono ?_); rintro e w2 ⟨rfl, b2⟩; replace hd := Lib.hid (hd.out.below b2); clear b2); (try dsimp only); refine hK.out _ _ ?_ (fun hHeld2 => ?_); (focus ((try dsimp only); exact hbs.out _ hd.out; done)); clear hK K'; clear hHeld; have hHeld := hHeld2; clear hHeld2; ((try simp only [Act.put, List.setIfInBounds_toArray]); (try dsimp only [List.set_cons_zero, List.set_cons_succ]))); (refine take_t (i := 15) (d := 38) (oi := _) (v := ?_) rfl rfl (by kernel_rfl) (by kernel_rfl) (by kernel_rfl) (by rfl) ?_ (by assumption) ?_; rotate_left; (focus (intro w0 hSw; (try dsimp only at hSw); go_simp; (try with_reducible rfl); done)); ((try simp only [Act.put, List.setIfInBounds_toArray]); (try dsimp only [List.set_cons_zero, List.set_cons_succ]))); (refine take_t (i := 16) (d := 39) (oi := _) (v := ?_) rfl rfl (by kernel_rfl) (by kernel_rfl) (by kernel_rfl) (by rfl) ?_ (by assumption) ?_; rotate_left; (focus (intro w0 hSw; (try dsimp only at hSw); go_simp; (try with_reducible rfl); done)); ((try simp only [Act.put, List.setIfInBounds_toArray]); (try dsimp only [List.set_cons_zero, List.set_cons_succ]))); (refine take_t (i := 17) (d := 3) (oi := _) (v := ?_) rfl rfl (by kernel_rfl) (by kernel_rfl) (by kernel_rfl) (by rfl) ?_ (by assumption) ?_; rotate_left; (focus (intro w0 hSw; (try dsimp only at hSw); go_simp; (try with_reducible rfl); done)); ((try simp only [Act.put, List.setIfInBounds_toArray]); (try dsimp only [List.set_cons_zero, List.set_cons_succ]))); refine wpAnyH_done (by kernel_rfl) ?_ _; refine NoPanic.normal ?_
        go_wp2
        go_roundg g
        case rel => exact ⟨m + 1, _, rfl, by go_num, by omega, hd.out, hEx.out, hl2.out⟩
        case measure => omega
      | zero =>
        obtain rfl : m = ne := by omega
        have hjlt2 : ¬ ((m : Int) < (m : Int)) := by omega
        have hFS : F = S := by rw [hF, List.take_of_length_le (by rw [← hne.out]; exact Nat.le_refl _), hSS.out]
        replace hFS := Lib.hid hFS
        obtain ⟨c0, c1⟩ := hcs.out _ hp.out
        clear hF hFl
        go_wp2
        go_ret
        exact ⟨by rw [hFS.out]; rfl, hp.out.bel⟩
end Go.Proofs.Ytcdgnhhciccoeaa.nod
