/- A question's parser (package query): values. No condition but where the words and the tables lie. -/
import Derived.Test.YtgbkpkioijbgoaaDoorQry2
namespace Go.Proofs.YtgbkpkioijbgoaaDoor.qry
open Go.RowKit
open lex (W wv)
open names (Nm mayN)
attribute [local go_sem ↓] Go.wp_at_zero Go.wp_at_succ
attribute [local go_sem] str_size str_bl
set_option linter.unusedVariables false
set_option linter.unusedSimpArgs false
set_option maxRecDepth 100000

theorem value3 : (Tryd.prog.info? 53).map (·.size) = some 3 := by kernel_rfl
def V.a (v : V) : Value := .agg #[.int .i64 (v.k : Int), .int .i64 v.n, .string (str v.s)]
theorem vint_any (n : Int) (w : World) : Calls Tryd.prog 107 #[.int .i64 n] w fun e w' => e = .returned (.agg #[.int .i64 2, .int .i64 n, .string ⟨#[]⟩]) ∧ Below w.heap.size w w' := by
  have hp := Lib.hid ((Hp.none_ w []).alloc #[.int .i64 2, .int .i64 n, .string ⟨#[]⟩] 53)
  go_enter Tryd.func107, Tryd.ntmps107
  go_wp2
  exact bodyPost_ret (v := .agg #[.int .i64 2, .int .i64 n, .string ⟨#[]⟩]) (results_cell_row rfl _ _ w.heap.size 53 #[.int .i64 2, .int .i64 n, .string ⟨#[]⟩] (0, 0) _ rfl (hp.out.box (i := 0) rfl) Tryd.underlying53 rfl value3) rfl ⟨rfl, hp.out.bel⟩
theorem vtext_any (s : ByteArray) (w : World) : Calls Tryd.prog 108 #[.string s] w fun e w' => e = .returned (.agg #[.int .i64 3, .int .i64 0, .string s]) ∧ Below w.heap.size w w' := by
  have hp := Lib.hid ((Hp.none_ w []).alloc #[.int .i64 3, .int .i64 0, .string s] 53)
  go_enter Tryd.func108, Tryd.ntmps108
  go_wp2
  exact bodyPost_ret (v := .agg #[.int .i64 3, .int .i64 0, .string s]) (results_cell_row rfl _ _ w.heap.size 53 #[.int .i64 3, .int .i64 0, .string s] (0, 0) _ rfl (hp.out.box (i := 0) rfl) Tryd.underlying53 rfl value3) rfl ⟨rfl, hp.out.bel⟩
theorem vbool_any (c : Bool) (w : World) : Calls Tryd.prog 116 #[.bool c] w fun e w' => e = .returned (.agg #[.int .i64 1, .int .i64 (if c then 1 else 0), .string ⟨#[]⟩]) ∧ Below w.heap.size w w' := by
  cases c with
  | true =>
    have hp := Lib.hid (((Hp.none_ w []).alloc #[.int .i64 1, .int .i64 1, .string ⟨#[]⟩] 53).alloc #[.int .i64 1, .int .i64 1, .string ⟨#[]⟩] 53)
    go_enter Tryd.func116, Tryd.ntmps116
    go_wp2
    exact bodyPost_ret (v := .agg #[.int .i64 1, .int .i64 1, .string ⟨#[]⟩]) (results_cell_row rfl _ _ w.heap.size 53 #[.int .i64 1, .int .i64 1, .string ⟨#[]⟩] (0, 0) _ rfl (hp.out.box (i := 1) rfl) Tryd.underlying53 rfl value3) rfl ⟨rfl, hp.out.bel⟩
  | false =>
    have hp := Lib.hid (((Hp.none_ w []).alloc #[.int .i64 1, .int .i64 0, .string ⟨#[]⟩] 53).alloc #[.int .i64 1, .int .i64 0, .string ⟨#[]⟩] 53)
    go_enter Tryd.func116, Tryd.ntmps116
    go_wp2
    exact bodyPost_ret (v := .agg #[.int .i64 1, .int .i64 0, .string ⟨#[]⟩]) (results_cell_row rfl _ _ w.heap.size 53 #[.int .i64 1, .int .i64 0, .string ⟨#[]⟩] (0, 0) _ rfl (hp.out.box (i := 1) rfl) Tryd.underlying53 rfl value3) rfl ⟨rfl, hp.out.bel⟩
/-- what a plain word says -/
def plainV (i : Nat) : V := if i = 0 then ⟨0, 0, []⟩ else ⟨1, if i = 2 then 1 else 0, []⟩
theorem plain_any (i : Nat) (hi : i < 3) (iI : Int) (hI : iI = (i : Int)) (w : World) : Calls Tryd.prog 106 #[.int .i64 iI] w fun e w' => e = .returned (plainV i).a ∧ Below w.heap.size w w' := by
  subst hI
  have h3 : i = 0 ∨ i = 1 ∨ i = 2 := by omega
  rcases h3 with rfl | rfl | rfl
  · have hp := Lib.hid ((Hp.none_ w []).alloc #[.int .i64 0, .int .i64 0, .string ⟨#[]⟩] 53)
    go_enter Tryd.func106, Tryd.ntmps106
    go_wp2
    exact bodyPost_ret (v := .agg #[.int .i64 0, .int .i64 0, .string ⟨#[]⟩]) (results_cell_row rfl _ _ w.heap.size 53 #[.int .i64 0, .int .i64 0, .string ⟨#[]⟩] (0, 0) _ rfl (hp.out.box (i := 0) rfl) Tryd.underlying53 rfl value3) rfl ⟨rfl, hp.out.bel⟩
  · have hp := Lib.hid ((Hp.none_ w []).alloc #[.int .i64 0, .int .i64 0, .string ⟨#[]⟩] 53)
    have kb := fun W => vbool_any false W
    simp only [Bool.false_eq_true, if_false] at kb
    replace kb := Lib.hid kb
    go_enter Tryd.func106, Tryd.ntmps106
    go_wp2_with (go_at_call 116; (with_reducible refine (kb.out _).mono ?_); rintro e w1 ⟨rfl, b1⟩; replace hp := Lib.hid (hp.out.below b1); clear b1; have y0 := hp.out.cell (i := 0) rfl 0; have y1 := hp.out.cell (i := 0) rfl 1; have y2 := hp.out.cell (i := 0) rfl 2; have f0 := hp.out.free (i := 0) rfl 0; have f1 := hp.out.free (i := 0) rfl 1; have f2 := hp.out.free (i := 0) rfl 2; simp at y0 y1 y2)
    replace hp := Lib.hid (((hp.out.put (i := 0) rfl 0 (.int .i64 1)).put (i := 0) rfl 1 (.int .i64 0)).put (i := 0) rfl 2 (.string ⟨#[]⟩))
    have hpg := hp.out
    exact bodyPost_ret (v := .agg #[.int .i64 1, .int .i64 0, .string ⟨#[]⟩]) (results_cell_row rfl _ _ w.heap.size 53 #[.int .i64 1, .int .i64 0, .string ⟨#[]⟩] (0, 0) _ rfl (hpg.box (i := 0) rfl) Tryd.underlying53 rfl value3) rfl ⟨rfl, hpg.bel⟩
  · have hp := Lib.hid ((Hp.none_ w []).alloc #[.int .i64 0, .int .i64 0, .string ⟨#[]⟩] 53)
    have kb := fun W => vbool_any true W
    simp only [if_true] at kb
    replace kb := Lib.hid kb
    go_enter Tryd.func106, Tryd.ntmps106
    go_wp2_with (go_at_call 116; (with_reducible refine (kb.out _).mono ?_); rintro e w1 ⟨rfl, b1⟩; replace hp := Lib.hid (hp.out.below b1); clear b1; have y0 := hp.out.cell (i := 0) rfl 0; have y1 := hp.out.cell (i := 0) rfl 1; have y2 := hp.out.cell (i := 0) rfl 2; have f0 := hp.out.free (i := 0) rfl 0; have f1 := hp.out.free (i := 0) rfl 1; have f2 := hp.out.free (i := 0) rfl 2; simp at y0 y1 y2)
    replace hp := Lib.hid (((hp.out.put (i := 0) rfl 0 (.int .i64 1)).put (i := 0) rfl 1 (.int .i64 1)).put (i := 0) rfl 2 (.string ⟨#[]⟩))
    have hpg := hp.out
    exact bodyPost_ret (v := .agg #[.int .i64 1, .int .i64 1, .string ⟨#[]⟩]) (results_cell_row rfl _ _ w.heap.size 53 #[.int .i64 1, .int .i64 1, .string ⟨#[]⟩] (0, 0) _ rfl (hpg.box (i := 0) rfl) Tryd.underlying53 rfl value3) rfl ⟨rfl, hpg.bel⟩
/-- what is left of a value when no plain word is next -/
def valR (ws : List W) (st : St) : V × St :=
  if isM ws 4 [45] st then (⟨2, -((numM ws top63 st.adv).1 : Int), []⟩, (numM ws top63 st.adv).2)
  else if decide ((wd ws st.at_).kind = 3) && !st.bad then (⟨3, 0, (wd ws st.at_).s⟩, st.adv)
  else (⟨2, ((numM ws top63 st).1 : Int), []⟩, (numM ws top63 st).2)
theorem val_plain (ws : List W) (st : St) (i : Nat) (m : Nm) (hm : plainL[i]? = some m) (hp : ∀ (j : Nat) (x : Nm), j < i → plainL[j]? = some x → isM ws 1 x st = false) (h : isM ws 1 m st = true) : valM ws st = (plainV i, st.adv) := by
  have h0 := fun q => hp 0 _ q rfl
  have h1 := fun q => hp 1 _ q rfl
  unfold valM
  match i, hm with
  | 0, hm => injection hm with e; subst e; rw [if_pos h]; rfl
  | 1, hm => injection hm with e; subst e; rw [if_neg (by rw [h0 (by decide)]; decide), if_pos h]; rfl
  | 2, hm => injection hm with e; subst e; rw [if_neg (by rw [h0 (by decide)]; decide), if_neg (by rw [h1 (by decide)]; decide), if_pos h]; rfl
  | n + 3, hm => simp [plainL] at hm
theorem val_rest (ws : List W) (st : St) (hp : ∀ (j : Nat) (x : Nm), j < 3 → plainL[j]? = some x → isM ws 1 x st = false) : valM ws st = valR ws st := by
  have h0 := hp 0 _ (by decide) rfl
  have h1 := hp 1 _ (by decide) rfl
  have h2 := hp 2 _ (by decide) rfl
  unfold valM valR
  rw [if_neg (by rw [h0]; decide), if_neg (by rw [h1]; decide), if_neg (by rw [h2]; decide)]
theorem numM_le {ws : List W} (h : Wf ws) (most : Nat) (st : St) : (numM ws most st).1 ≤ 9223372036854775807 := by
  unfold numM
  split
  · exact Nat.zero_le _
  · unfold wd
    rw [List.getD_eq_getElem?_getD]
    cases hx : ws[st.at_]? with
    | none => exact Nat.zero_le _
    | some x => exact h.num x (List.mem_of_getElem? hx)
set_option maxHeartbeats 4000000 in
theorem val_any {ws : List W} {b cap g : Nat} {st : St} {w : World} (h : Pz ws b cap g st w) :
    Calls Tryd.prog 92 #[pv g] w (PR ws b cap g w (valM ws st).1.a (valM ws st).2) := by
  have hz0 := h
  have hlt := Lib.hid (block_lt h.box)
  have hp := (Hp.lend h.box).alloc #[.int .i64 0, .int .i64 0, .string ⟨#[]⟩] 53
  have hzz : ∀ (W : World) (rs : List Rs) (st' : St) (i : Nat), Hp w [g] rs W → rs[i]? = some (.box g (psC b cap ws.length st') 68) → st'.at_ < ws.length → Pz ws b cap g st' W := fun W rs st' i hpW hi hl => (Pz.of hz0 hpW hi hl).1
  have hst := h.lt
  replace h := Lib.hid h; replace hp := Lib.hid hp; replace hzz := Lib.hid hzz; replace hst := Lib.hid hst
  clear hz0
  obtain ⟨R, hR0⟩ : ∃ R, R = valM ws st := ⟨_, rfl⟩
  rw [← hR0]
  replace hR0 := Lib.hid hR0
  go_enter Tryd.func92, Tryd.ntmps92
  go_upto_region 1 with fail
  generalize w.alloc _ = W1 at hp ⊢
  generalize w.heap.size = q at hp ⊢
  go_wp2
  go_loopg [5] 3 (fun kk s5 wr => ∃ i : Nat, s5 = .int .i64 (i : Int) ∧ i + kk = 3 ∧ (∀ (j : Nat) (x : Nm), j < i → plainL[j]? = some x → isM ws 1 x st = false) ∧ Hp w [g] [.box q #[.int .i64 0, .int .i64 0, .string ⟨#[]⟩] 53, .box g (psC b cap ws.length st) 68] wr)
  case atStart => exact ⟨0, rfl, rfl, fun j x hj => by omega, hp.out⟩
  case round =>
    clear hp
    obtain ⟨i, rfl, hik, hpv, hp⟩ := hrel
    replace hp := Lib.hid hp
    by_cases hlt3 : i < 3
    · obtain ⟨K, rfl⟩ : ∃ K : Nat, gk = K + 1 := ⟨gk - 1, by omega⟩
      obtain ⟨m, hm⟩ : ∃ m, plainL[i]? = some m := ⟨_, List.getElem?_eq_getElem hlt3⟩
      have hzw := hzz.out _ _ st 1 hp.out rfl hst.out
      have d0 := hzw.pl.2 i m hm
      have kk := key_any hzw m
      have e0 : (i : Int) < 3 := by omega
      have e1 : (0 : Int) ≤ (i : Int) := by omega
      unfold nextM at kk
      cases hmk : isM ws 1 m st with
      | true =>
        rw [hmk] at kk
        simp only [if_true] at kk
        have hfin := hR0.out.trans (val_plain ws st i m hm hpv hmk)
        subst hfin
        have kp := fun W => plain_any i hlt3 (i : Int) rfl W
        obtain ⟨⟨vk, vn, vs⟩, hV⟩ : ∃ v, v = plainV i := ⟨_, rfl⟩
        rw [← hV] at kp ⊢
        unfold V.a at kp ⊢
        simp only at kp ⊢
        replace kk := Lib.hid kk; replace kp := Lib.hid kp
        clear hV hmk hzw hpv hm hR0
        go_wp2_with (first
          | (go_at_call 55; (with_reducible refine kk.out.mono ?_); rintro e w1 ⟨rfl, h1, k1⟩; have hl1 := Lib.hid h1.lt; replace hp := Lib.hid (hp.out.call (i := 1) rfl (cs' := psC b cap ws.length st.adv) h1.box k1); clear h1 k1)
          | (go_at_call 106; (with_reducible refine (kp.out _).mono ?_); rintro e w2 ⟨rfl, b2⟩; replace hp := Lib.hid (hp.out.below b2); clear b2; have y0 := hp.out.cell (i := 0) rfl 0; have y1 := hp.out.cell (i := 0) rfl 1; have y2 := hp.out.cell (i := 0) rfl 2; have f0 := hp.out.free (i := 0) rfl 0; have f1 := hp.out.free (i := 0) rfl 1; have f2 := hp.out.free (i := 0) rfl 2; simp at y0 y1 y2))
        replace hp := Lib.hid (((hp.out.put (i := 0) rfl 0 (.int .i64 (vk : Int))).put (i := 0) rfl 1 (.int .i64 vn)).put (i := 0) rfl 2 (.string (str vs)))
        have hpg := hp.out
        exact bodyPost_ret (v := .agg #[.int .i64 (vk : Int), .int .i64 vn, .string (str vs)]) (results_cell_row rfl _ _ q 53 #[.int .i64 (vk : Int), .int .i64 vn, .string (str vs)] (0, 0) _ rfl (hpg.box (i := 0) rfl) Tryd.underlying53 rfl value3) rfl ⟨rfl, Pz.of h.out hpg (i := 1) rfl hl1.out⟩
      | false =>
        rw [hmk] at kk
        simp only [Bool.false_eq_true, if_false] at kk
        have hpv2 := Lib.hid (show ∀ (j : Nat) (x : Nm), j < i + 1 → plainL[j]? = some x → isM ws 1 x st = false from fun j x hj hx => by
          by_cases hji : j < i
          · exact hpv j x hji hx
          · obtain rfl : j = i := by omega
            rw [hm] at hx; injection hx with hx; rw [← hx]; exact hmk)
        replace kk := Lib.hid kk; replace hik := Lib.hid hik
        clear hmk hzw hpv hm hlt3
        go_wp2_with (go_at_call 55; (with_reducible refine kk.out.mono ?_); rintro e w1 ⟨rfl, h1, k1⟩; replace hp := Lib.hid (hp.out.call (i := 1) rfl (cs' := psC b cap ws.length st) h1.box k1); clear h1 k1)
        go_roundg K
        case measure => omega
        case rel => exact ⟨i + 1, by go_num, by have := hik.out; omega, hpv2.out, hp.out⟩
    · have hk0 : gk = 0 := by omega
      subst hk0
      obtain rfl : i = 3 := by omega
      have hR1 := hR0.out.trans (val_rest ws st hpv)
      clear hR0
      have e0 : ¬ ((3 : Nat) : Int) < 3 := by omega
      clear hpv hik hlt3
      have hzw := hzz.out _ _ st 1 hp.out rfl hst.out
      have hbq := hzw.box
      have kk := mark_any hzw [45]
      have e45 : str [45] = (⟨#[45]⟩ : ByteArray) := rfl
      rw [e45] at kk
      unfold nextM at kk
      have kn := fun W st' (hz : Pz ws b cap g st' W) => num_any hz top63 9223372036854775807 rfl
      have ki := fun n W => vint_any n W
      replace ki := Lib.hid ki
      have Y : True := trivial
      cases hmk : isM ws 4 [45] st with
      | true =>
        rw [hmk] at kk
        simp only [if_true] at kk
        have hR : valR ws st = (⟨2, -((numM ws top63 st.adv).1 : Int), []⟩, (numM ws top63 st.adv).2) := by unfold valR; rw [if_pos hmk]
        replace hR := hR1.trans hR
        have kn2 := fun W (hz : Pz ws b cap g st.adv W) => kn W _ hz
        have hnb := numM_le hzw.wf top63 st.adv
        obtain ⟨⟨n, st2⟩, hN⟩ : ∃ r, r = numM ws top63 st.adv := ⟨_, rfl⟩
        rw [← hN] at kn2 hnb hR
        simp only at kn2 hnb hR
        subst hR
        have i4 : IntKind.i64.wrap (-(n : Int)) = -(n : Int) := IntWalk.i64_in _ (by omega)
        unfold V.a
        simp only
        have e00 : str [] = (⟨#[]⟩ : ByteArray) := rfl
        rw [e00]
        replace kk := Lib.hid kk; replace kn2 := Lib.hid kn2
        clear hR1 hN hmk hzw hbq kn hnb e00 e45
        go_wp2_with (first
          | (go_at_call 59; (with_reducible refine kk.out.mono ?_); rintro e w1 ⟨rfl, h1, k1⟩; have hl1 := Lib.hid h1.lt; have hz1 := Lib.hid h1; replace hp := Lib.hid (hp.out.call (i := 1) rfl (cs' := psC b cap ws.length st.adv) h1.box k1); clear h1 k1)
          | (go_at_call 61; (with_reducible refine (kn2.out _ hz1.out).mono ?_); rintro e w2 ⟨rfl, h2, k2⟩; have hl2 := Lib.hid h2.lt; replace hp := Lib.hid (hp.out.call (i := 1) rfl (cs' := psC b cap ws.length st2) h2.box k2); clear h2 k2)
          | (go_at_call 107; (with_reducible refine (ki.out _ _).mono ?_); rintro e w3 ⟨rfl, b3⟩; replace hp := Lib.hid (hp.out.below b3); clear b3; have y0 := hp.out.cell (i := 0) rfl 0; have y1 := hp.out.cell (i := 0) rfl 1; have y2 := hp.out.cell (i := 0) rfl 2; have f0 := hp.out.free (i := 0) rfl 0; have f1 := hp.out.free (i := 0) rfl 1; have f2 := hp.out.free (i := 0) rfl 2; simp at y0 y1 y2))
        replace hp := Lib.hid (((hp.out.put (i := 0) rfl 0 (.int .i64 2)).put (i := 0) rfl 1 (.int .i64 (-(n : Int)))).put (i := 0) rfl 2 (.string ⟨#[]⟩))
        have hpg := hp.out
        exact bodyPost_ret (v := .agg #[.int .i64 2, .int .i64 (-(n : Int)), .string ⟨#[]⟩]) (results_cell_row rfl _ _ q 53 #[.int .i64 2, .int .i64 (-(n : Int)), .string ⟨#[]⟩] (0, 0) _ rfl (hpg.box (i := 0) rfl) Tryd.underlying53 rfl value3) rfl ⟨rfl, Pz.of h.out hpg (i := 1) rfl hl2.out⟩
      | false =>
        rw [hmk] at kk
        simp only [Bool.false_eq_true, if_false] at kk
        have kw := fun W (hz : Pz ws b cap g st W) => word_any hz
        have kt := fun n W => vtext_any n W
        have hstep := hzw.step
        obtain ⟨x, hx⟩ : ∃ x, x = wd ws st.at_ := ⟨_, rfl⟩
        rw [← hx] at kw hstep
        by_cases h3 : x.kind = 3 ∧ st.bad = false
        · have hR : valR ws st = (⟨3, 0, x.s⟩, st.adv) := by unfold valR; rw [if_neg (by rw [hmk]; decide), if_pos (by rw [← hx]; simp [h3.1, h3.2]), ← hx]
          replace hR := hR1.trans hR
          subst hR
          obtain ⟨xk, xs, xn, xp⟩ := x
          obtain ⟨i, bd⟩ := st
          simp only at h3 kw hstep
          obtain ⟨h31, h32⟩ := h3
          subst h32
          have i3 : IntKind.i64.wrap ((i : Int) + 1) = (i : Int) + 1 := IntWalk.i64_in _ (by have := hzw.lt; have := hzw.wf.len; simp only at *; omega)
          have n1 : ((xk : Int) == 3) = true := by rw [h31]; rfl
          have hs1 := Lib.hid (hstep (by omega))
          replace h31 := Lib.hid h31
          unfold V.a
          simp only
          unfold psC at hp
          simp only at hp
          replace kk := Lib.hid kk; replace kw := Lib.hid kw; replace kt := Lib.hid kt
          clear hR1 hx hmk hzw hbq kn e45 hstep
          go_upto_region 10 with (first
            | (go_at_call 59; (with_reducible refine kk.out.mono ?_); rintro e w1 ⟨rfl, h1, k1⟩; have hz1 := Lib.hid h1; replace hp := Lib.hid (hp.out.call (i := 1) rfl (cs' := #[.slice (some ⟨b, 0, none⟩) ws.length cap, .int .i64 (i : Int), .bool false]) h1.box k1); clear h1 k1)
            | (go_at_call 23; (with_reducible refine (kw.out _ hz1.out).mono ?_); rintro e w2 ⟨rfl, b2⟩; replace hp := Lib.hid ((hp.out.below b2).alloc #[.int .i64 (xk : Int), .string (str xs), .int .i64 (xn : Int), .int .i64 (xp : Int)] 71); clear b2))
          generalize w2.alloc _ = W2 at hp ⊢
          generalize w2.heap.size = q4 at hp ⊢
          have y0 := hp.out.cell (i := 0) rfl 0
          have c1 := hp.out.cell (i := 2) rfl 1; have c2 := hp.out.cell (i := 2) rfl 2; have f1 := hp.out.free (i := 2) rfl 1
          simp at y0 c1 c2
          go_upto_region 12 with fail
          replace hp := Lib.hid (hp.out.put (i := 2) rfl 1 (.int .i64 ((i : Int) + 1)))
          clear y0 c1 c2 f1
          generalize World.setCell _ _ _ = W3 at hp ⊢
          have y1 := hp.out.cell (i := 0) rfl 1
          simp at y1
          go_wp2_with (go_at_call 108; (with_reducible refine (kt.out _ _).mono ?_); rintro e w3 ⟨rfl, b3⟩; replace hp := Lib.hid (hp.out.below b3); clear b3; have z0 := hp.out.cell (i := 1) rfl 0; have z1 := hp.out.cell (i := 1) rfl 1; have z2 := hp.out.cell (i := 1) rfl 2; have f0 := hp.out.free (i := 1) rfl 0; have f1 := hp.out.free (i := 1) rfl 1; have f2 := hp.out.free (i := 1) rfl 2; simp at z0 z1 z2)
          replace hp := Lib.hid (((hp.out.put (i := 1) rfl 0 (.int .i64 3)).put (i := 1) rfl 1 (.int .i64 0)).put (i := 1) rfl 2 (.string (str xs)))
          have hpg := hp.out
          exact bodyPost_ret (v := .agg #[.int .i64 3, .int .i64 0, .string (str xs)]) (results_cell_row rfl _ _ q 53 #[.int .i64 3, .int .i64 0, .string (str xs)] (0, 0) _ rfl (hpg.box (i := 1) rfl) Tryd.underlying53 rfl value3) rfl ⟨rfl, Pz.of h.out hpg (i := 2) rfl hs1.out⟩
        · have hR : valR ws st = (⟨2, ((numM ws top63 st).1 : Int), []⟩, (numM ws top63 st).2) := by
            unfold valR
            rw [if_neg (by rw [hmk]; decide), if_neg (by rw [← hx]; intro e; simp at e; exact h3 e)]
          replace hR := hR1.trans hR
          have kn2 := fun W (hz : Pz ws b cap g st W) => kn W _ hz
          obtain ⟨⟨n, st2⟩, hN⟩ : ∃ r, r = numM ws top63 st := ⟨_, rfl⟩
          rw [← hN] at kn2 hR
          simp only at kn2 hR
          subst hR
          unfold V.a
          simp only
          have e00 : str [] = (⟨#[]⟩ : ByteArray) := rfl
          rw [e00]
          have hzq := Lib.hid (show ∀ (W : World) (rs : List Rs), Hp w [g] rs W → rs[2]? = some (.box g (psC b cap ws.length st) 68) → Pz ws b cap g st W from fun W rs hpW hi => hzz.out _ _ st 2 hpW hi hst.out)
          obtain ⟨xk, xs, xn, xp⟩ := x
          simp only at h3 kw
          replace kk := Lib.hid kk; replace kw := Lib.hid kw; replace kn2 := Lib.hid kn2
          clear hR1 hx hN hmk hzw hbq kn e45 e00 hstep
          have hcs : (xk ≠ 3) ∨ (xk = 3 ∧ st.bad = true) := by
            by_cases h31 : xk = 3
            · exact Or.inr ⟨h31, by cases hb : st.bad; exact absurd ⟨h31, hb⟩ h3; rfl⟩
            · exact Or.inl h31
          clear h3
          have TAIL : True := trivial
          rcases hcs with h31 | ⟨h31, h32⟩
          · have n1 : ((xk : Int) == 3) = false := by rw [beq_eq_false_iff_ne]; omega
            replace h31 := Lib.hid h31
            go_upto_region 10 with (first
              | (go_at_call 59; (with_reducible refine kk.out.mono ?_); rintro e w1 ⟨rfl, h1, k1⟩; have hz1 := Lib.hid h1; replace hp := Lib.hid (hp.out.call (i := 1) rfl (cs' := psC b cap ws.length st) h1.box k1); clear h1 k1)
              | (go_at_call 23; (with_reducible refine (kw.out _ hz1.out).mono ?_); rintro e w2 ⟨rfl, b2⟩; replace hp := Lib.hid ((hp.out.below b2).alloc #[.int .i64 (xk : Int), .string (str xs), .int .i64 (xn : Int), .int .i64 (xp : Int)] 71); clear b2))
            generalize w2.alloc _ = W2 at hp ⊢
            generalize w2.heap.size = q4 at hp ⊢
            have y0 := hp.out.cell (i := 0) rfl 0
            simp at y0
            go_wp2_with (first
              | (go_at_call 61; (with_reducible refine (kn2.out _ (hzq.out _ _ hp.out rfl)).mono ?_); rintro e w3 ⟨rfl, h2, k2⟩; have hl2 := Lib.hid h2.lt; replace hp := Lib.hid (hp.out.call (i := 2) rfl (cs' := psC b cap ws.length st2) h2.box k2); clear h2 k2)
              | (go_at_call 107; (with_reducible refine (ki.out _ _).mono ?_); rintro e w4 ⟨rfl, b3⟩; replace hp := Lib.hid (hp.out.below b3); clear b3; have z0 := hp.out.cell (i := 1) rfl 0; have z1 := hp.out.cell (i := 1) rfl 1; have z2 := hp.out.cell (i := 1) rfl 2; have f0 := hp.out.free (i := 1) rfl 0; have f1 := hp.out.free (i := 1) rfl 1; have f2 := hp.out.free (i := 1) rfl 2; simp at z0 z1 z2))
            replace hp := Lib.hid (((hp.out.put (i := 1) rfl 0 (.int .i64 2)).put (i := 1) rfl 1 (.int .i64 (n : Int))).put (i := 1) rfl 2 (.string ⟨#[]⟩))
            have hpg := hp.out
            exact bodyPost_ret (v := .agg #[.int .i64 2, .int .i64 (n : Int), .string ⟨#[]⟩]) (results_cell_row rfl _ _ q 53 #[.int .i64 2, .int .i64 (n : Int), .string ⟨#[]⟩] (0, 0) _ rfl (hpg.box (i := 1) rfl) Tryd.underlying53 rfl value3) rfl ⟨rfl, Pz.of h.out hpg (i := 2) rfl hl2.out⟩
          · have n1 : ((xk : Int) == 3) = true := by rw [h31]; rfl
            replace h31 := Lib.hid h31
            have hbq2 : psC b cap ws.length st = #[.slice (some ⟨b, 0, none⟩) ws.length cap, .int .i64 (st.at_ : Int), .bool true] := by unfold psC; rw [h32]
            replace hbq2 := Lib.hid hbq2
            clear h32
            go_upto_region 10 with (first
              | (go_at_call 59; (with_reducible refine kk.out.mono ?_); rintro e w1 ⟨rfl, h1, k1⟩; have hz1 := Lib.hid h1; replace hp := Lib.hid (hp.out.call (i := 1) rfl (cs' := psC b cap ws.length st) h1.box k1); clear h1 k1)
              | (go_at_call 23; (with_reducible refine (kw.out _ hz1.out).mono ?_); rintro e w2 ⟨rfl, b2⟩; replace hp := Lib.hid ((hp.out.below b2).alloc #[.int .i64 (xk : Int), .string (str xs), .int .i64 (xn : Int), .int .i64 (xp : Int)] 71); clear b2))
            generalize w2.alloc _ = W2 at hp ⊢
            generalize w2.heap.size = q4 at hp ⊢
            have y0 := hp.out.cell (i := 0) rfl 0
            simp at y0
            have c2 : W2.cell? ⟨g, 2, none⟩ = some (.bool true) := (hp.out.cell (i := 2) rfl 2).trans (by rw [hbq2.out]; rfl)
            go_wp2_with (first
              | (go_at_call 61; (with_reducible refine (kn2.out _ (hzq.out _ _ hp.out rfl)).mono ?_); rintro e w3 ⟨rfl, h2, k2⟩; have hl2 := Lib.hid h2.lt; replace hp := Lib.hid (hp.out.call (i := 2) rfl (cs' := psC b cap ws.length st2) h2.box k2); clear h2 k2)
              | (go_at_call 107; (with_reducible refine (ki.out _ _).mono ?_); rintro e w4 ⟨rfl, b3⟩; replace hp := Lib.hid (hp.out.below b3); clear b3; have z0 := hp.out.cell (i := 1) rfl 0; have z1 := hp.out.cell (i := 1) rfl 1; have z2 := hp.out.cell (i := 1) rfl 2; have f0 := hp.out.free (i := 1) rfl 0; have f1 := hp.out.free (i := 1) rfl 1; have f2 := hp.out.free (i := 1) rfl 2; simp at z0 z1 z2))
            replace hp := Lib.hid (((hp.out.put (i := 1) rfl 0 (.int .i64 2)).put (i := 1) rfl 1 (.int .i64 (n : Int))).put (i := 1) rfl 2 (.string ⟨#[]⟩))
            have hpg := hp.out
            exact bodyPost_ret (v := .agg #[.int .i64 2, .int .i64 (n : Int), .string ⟨#[]⟩]) (results_cell_row rfl _ _ q 53 #[.int .i64 2, .int .i64 (n : Int), .string ⟨#[]⟩] (0, 0) _ rfl (hpg.box (i := 1) rfl) Tryd.underlying53 rfl value3) rfl ⟨rfl, Pz.of h.out hpg (i := 2) rfl hl2.out⟩
end Go.Proofs.YtgbkpkioijbgoaaDoor.qry
