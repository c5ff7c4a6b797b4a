/- A question's parser (package query): names, numbers. No condition but where the words lie. -/
import Derived.Test.YtgbkpkioijbgoaaDoorQry1
namespace Go.Proofs.YtgbkpkioijbgoaaDoor.qry
open Go.RowKit
open lex (W wv)
open names (Nm mayN)
attribute [local go_sem ↓] Go.wp_at_zero Go.wp_at_succ
attribute [local go_sem] str_size str_bl
set_option linter.unusedVariables false
set_option linter.unusedSimpArgs false
set_option maxRecDepth 100000

theorem Pz.trans {ws : List W} {b cap g : Nat} {w w1 w2 : World} {st : St} (k : Keeps [g] w w1) (h : Pz ws b cap g st w2 ∧ Keeps [g] w1 w2) : Pz ws b cap g st w2 ∧ Keeps [g] w w2 := ⟨h.1, k.trans h.2⟩
set_option maxHeartbeats 2000000 in
theorem res_any (s : Nm) (w : World) : Calls Tryd.prog 114 #[.string (str s)] w fun e w' => e = .returned (.bool (resB s)) ∧ w' = w := by
  by_cases h : s ∈ resL
  · have hr : resB s = true := by unfold resB; simp [h]
    rw [hr]
    clear hr
    simp only [resL, List.mem_cons, List.not_mem_nil, or_false] at h
    rcases h with rfl | rfl | rfl | rfl | rfl | rfl
    all_goals (
      go_enter Tryd.func114, Tryd.ntmps114
      go_wp2
      go_ret
      exact ⟨rfl, rfl⟩)
  · have hr : resB s = false := by unfold resB; simp [h]
    rw [hr]
    clear hr
    simp only [resL, List.mem_cons, List.not_mem_nil, or_false, not_or] at h
    obtain ⟨h1, h2, h3, h4, h5, h6⟩ := h
    have e1 : (s == [102, 105, 110, 100]) = false := by simp [h1]
    have e2 : (s == [119, 104, 101, 114, 101]) = false := by simp [h2]
    have e3 : (s == [97, 110, 100]) = false := by simp [h3]
    have e4 : (s == [116, 101, 108, 108]) = false := by simp [h4]
    have e5 : (s == [108, 105, 109, 105, 116]) = false := by simp [h5]
    have e6 : (s == [110, 111, 116, 104, 105, 110, 103]) = false := by simp [h6]
    go_enter Tryd.func114, Tryd.ntmps114
    go_wp2
    go_ret
    exact ⟨rfl, rfl⟩
set_option maxHeartbeats 2000000 in
theorem maybe_any {ws : List W} {b cap g : Nat} {st : St} {w : World} (h : Pz ws b cap g st w) :
    Calls Tryd.prog 105 #[pv g] w (PR ws b cap g w (.string (str (mayM ws st).1)) (mayM ws st).2) := by
  have cw := word_any h
  have hstep := h.step
  have hlen := h.wf.len
  have hxl := h.wf.txt _ h.mem
  have hp := Hp.lend h.box
  obtain ⟨x, hx⟩ : ∃ x, x = wd ws st.at_ := ⟨_, rfl⟩
  have hM : canB ws st = (!st.bad && (decide (x.kind = 1) && (!resB x.s && mayN x.s))) := by rw [hx]; rfl
  have hN1 : canB ws st = true → mayM ws st = (x.s, st.adv) := fun e => by unfold mayM; rw [if_pos e, hx]
  have hN0 : canB ws st = false → mayM ws st = ([], st) := fun e => by unfold mayM; rw [if_neg (by rw [e]; decide)]
  rw [← hx] at cw hstep hxl
  have kr := fun W => res_any x.s W
  have km := fun W => names.may_any x.s (by omega) W
  obtain ⟨R, hR⟩ : ∃ R, R = mayM ws st := ⟨_, rfl⟩
  rw [← hR] at hN1 hN0 ⊢
  obtain ⟨C, hC⟩ : ∃ C, C = canB ws st := ⟨_, rfl⟩
  rw [← hC] at hM hN1 hN0
  obtain ⟨xk, xs, xn, xp⟩ := x
  simp only at cw hM hstep kr km hN1 hxl
  obtain ⟨rb, hrb⟩ : ∃ r, r = resB xs := ⟨_, rfl⟩
  obtain ⟨mb, hmb⟩ : ∃ r, r = mayN xs := ⟨_, rfl⟩
  rw [← hrb] at kr hM
  rw [← hmb] at km hM
  obtain ⟨i, bd⟩ := st
  simp only at hM hstep
  clear hx hR hC hrb hmb
  replace cw := Lib.hid cw; replace h := Lib.hid h; replace hp := Lib.hid hp; replace kr := Lib.hid kr; replace km := Lib.hid km; replace hN1 := Lib.hid hN1; replace hN0 := Lib.hid hN0; replace hstep := Lib.hid hstep
  have i3 : IntKind.i64.wrap ((i : Int) + 1) = (i : Int) + 1 := IntWalk.i64_in _ (by have := h.out.lt; simp only at this; omega)
  unfold psC at hp
  simp only at hp
  clear hxl hlen
  have key : (C = false ∧ bd = true) ∨ (C = false ∧ bd = false ∧ xk ≠ 1) ∨ (C = false ∧ bd = false ∧ xk = 1 ∧ rb = true) ∨ (C = false ∧ bd = false ∧ xk = 1 ∧ rb = false ∧ mb = false) ∨ (C = true ∧ bd = false ∧ xk = 1 ∧ rb = false ∧ mb = true) := by
    cases bd
    · by_cases h1 : xk = 1
      · cases rb <;> cases mb <;> simp_all
      · exact Or.inr (Or.inl ⟨by rw [hM]; simp [h1], rfl, h1⟩)
    · exact Or.inl ⟨by rw [hM]; simp, rfl⟩
  clear hM
  rcases key with ⟨rfl, rfl⟩ | ⟨rfl, rfl, h1⟩ | ⟨rfl, rfl, h1, rfl⟩ | ⟨rfl, rfl, h1, rfl, rfl⟩ | ⟨rfl, rfl, h1, rfl, rfl⟩
  · have e0 := hN0.out rfl
    subst e0
    clear hN1 hN0
    go_enter Tryd.func105, Tryd.ntmps105
    go_upto_region 2 with (go_at_call 23; (with_reducible refine cw.out.mono ?_); rintro e w1 ⟨rfl, b1⟩; replace hp := Lib.hid ((hp.out.below b1).alloc #[.int .i64 (xk : Int), .string (str xs), .int .i64 (xn : Int), .int .i64 (xp : Int)] 71); clear b1)
    generalize w1.alloc _ = W1 at hp ⊢
    generalize w1.heap.size = q at hp ⊢
    have y0 := hp.out.cell (i := 0) rfl 0; have y1 := hp.out.cell (i := 0) rfl 1
    have c1 := hp.out.cell (i := 1) rfl 1; have c2 := hp.out.cell (i := 1) rfl 2; have f1 := hp.out.free (i := 1) rfl 1
    simp at y0 y1 c1 c2
    go_wp2_with (first
      | (go_at_call 114; (with_reducible refine (kr.out _).mono ?_); rintro e w2 ⟨rfl, rfl⟩)
      | (go_at_call 115; (with_reducible refine (km.out _).mono ?_); rintro e w2 ⟨rfl, b2⟩; replace hp := Lib.hid (hp.out.below b2); clear b2 y0 y1 c1 c2 f1; have y0 := hp.out.cell (i := 0) rfl 0; have y1 := hp.out.cell (i := 0) rfl 1; have c1 := hp.out.cell (i := 1) rfl 1; have c2 := hp.out.cell (i := 1) rfl 2; have f1 := hp.out.free (i := 1) rfl 1; simp at y0 y1 c1 c2))
    go_ret
    exact ⟨rfl, Pz.of h.out hp.out (i := 1) rfl h.out.lt⟩
  · have e0 := hN0.out rfl
    subst e0
    clear hN1 hN0
    have n1 : ((xk : Int) == 1) = false := by rw [beq_eq_false_iff_ne]; omega
    have n2 : ((xk : Int) != 1) = true := by rw [bne, n1]; rfl
    have n3 : ¬ (xk : Int) = 1 := by omega
    go_enter Tryd.func105, Tryd.ntmps105
    go_upto_region 2 with (go_at_call 23; (with_reducible refine cw.out.mono ?_); rintro e w1 ⟨rfl, b1⟩; replace hp := Lib.hid ((hp.out.below b1).alloc #[.int .i64 (xk : Int), .string (str xs), .int .i64 (xn : Int), .int .i64 (xp : Int)] 71); clear b1)
    generalize w1.alloc _ = W1 at hp ⊢
    generalize w1.heap.size = q at hp ⊢
    have y0 := hp.out.cell (i := 0) rfl 0; have y1 := hp.out.cell (i := 0) rfl 1
    have c1 := hp.out.cell (i := 1) rfl 1; have c2 := hp.out.cell (i := 1) rfl 2; have f1 := hp.out.free (i := 1) rfl 1
    simp at y0 y1 c1 c2
    go_wp2_with (first
      | (go_at_call 114; (with_reducible refine (kr.out _).mono ?_); rintro e w2 ⟨rfl, rfl⟩)
      | (go_at_call 115; (with_reducible refine (km.out _).mono ?_); rintro e w2 ⟨rfl, b2⟩; replace hp := Lib.hid (hp.out.below b2); clear b2 y0 y1 c1 c2 f1; have y0 := hp.out.cell (i := 0) rfl 0; have y1 := hp.out.cell (i := 0) rfl 1; have c1 := hp.out.cell (i := 1) rfl 1; have c2 := hp.out.cell (i := 1) rfl 2; have f1 := hp.out.free (i := 1) rfl 1; simp at y0 y1 c1 c2))
    go_ret
    exact ⟨rfl, Pz.of h.out hp.out (i := 1) rfl h.out.lt⟩
  · have e0 := hN0.out rfl
    subst e0
    clear hN1 hN0
    have n1 : ((xk : Int) == 1) = true := by rw [h1]; rfl
    have n2 : ((xk : Int) != 1) = false := by rw [bne, n1]; rfl
    replace h1 := Lib.hid h1
    go_enter Tryd.func105, Tryd.ntmps105
    go_upto_region 2 with (go_at_call 23; (with_reducible refine cw.out.mono ?_); rintro e w1 ⟨rfl, b1⟩; replace hp := Lib.hid ((hp.out.below b1).alloc #[.int .i64 (xk : Int), .string (str xs), .int .i64 (xn : Int), .int .i64 (xp : Int)] 71); clear b1)
    generalize w1.alloc _ = W1 at hp ⊢
    generalize w1.heap.size = q at hp ⊢
    have y0 := hp.out.cell (i := 0) rfl 0; have y1 := hp.out.cell (i := 0) rfl 1
    have c1 := hp.out.cell (i := 1) rfl 1; have c2 := hp.out.cell (i := 1) rfl 2; have f1 := hp.out.free (i := 1) rfl 1
    simp at y0 y1 c1 c2
    go_wp2_with (first
      | (go_at_call 114; (with_reducible refine (kr.out _).mono ?_); rintro e w2 ⟨rfl, rfl⟩)
      | (go_at_call 115; (with_reducible refine (km.out _).mono ?_); rintro e w2 ⟨rfl, b2⟩; replace hp := Lib.hid (hp.out.below b2); clear b2 y0 y1 c1 c2 f1; have y0 := hp.out.cell (i := 0) rfl 0; have y1 := hp.out.cell (i := 0) rfl 1; have c1 := hp.out.cell (i := 1) rfl 1; have c2 := hp.out.cell (i := 1) rfl 2; have f1 := hp.out.free (i := 1) rfl 1; simp at y0 y1 c1 c2))
    go_ret
    exact ⟨rfl, Pz.of h.out hp.out (i := 1) rfl h.out.lt⟩
  · have e0 := hN0.out rfl
    subst e0
    clear hN1 hN0
    have n1 : ((xk : Int) == 1) = true := by rw [h1]; rfl
    have n2 : ((xk : Int) != 1) = false := by rw [bne, n1]; rfl
    replace h1 := Lib.hid h1
    go_enter Tryd.func105, Tryd.ntmps105
    go_upto_region 2 with (go_at_call 23; (with_reducible refine cw.out.mono ?_); rintro e w1 ⟨rfl, b1⟩; replace hp := Lib.hid ((hp.out.below b1).alloc #[.int .i64 (xk : Int), .string (str xs), .int .i64 (xn : Int), .int .i64 (xp : Int)] 71); clear b1)
    generalize w1.alloc _ = W1 at hp ⊢
    generalize w1.heap.size = q at hp ⊢
    have y0 := hp.out.cell (i := 0) rfl 0; have y1 := hp.out.cell (i := 0) rfl 1
    have c1 := hp.out.cell (i := 1) rfl 1; have c2 := hp.out.cell (i := 1) rfl 2; have f1 := hp.out.free (i := 1) rfl 1
    simp at y0 y1 c1 c2
    go_wp2_with (first
      | (go_at_call 114; (with_reducible refine (kr.out _).mono ?_); rintro e w2 ⟨rfl, rfl⟩)
      | (go_at_call 115; (with_reducible refine (km.out _).mono ?_); rintro e w2 ⟨rfl, b2⟩; replace hp := Lib.hid (hp.out.below b2); clear b2 y0 y1 c1 c2 f1; have y0 := hp.out.cell (i := 0) rfl 0; have y1 := hp.out.cell (i := 0) rfl 1; have c1 := hp.out.cell (i := 1) rfl 1; have c2 := hp.out.cell (i := 1) rfl 2; have f1 := hp.out.free (i := 1) rfl 1; simp at y0 y1 c1 c2))
    go_ret
    exact ⟨rfl, Pz.of h.out hp.out (i := 1) rfl h.out.lt⟩
  · have e0 := hN1.out rfl
    subst e0
    clear hN1 hN0
    have n1 : ((xk : Int) == 1) = true := by rw [h1]; rfl
    have n2 : ((xk : Int) != 1) = false := by rw [bne, n1]; rfl
    replace h1 := Lib.hid h1
    go_enter Tryd.func105, Tryd.ntmps105
    go_upto_region 2 with (go_at_call 23; (with_reducible refine cw.out.mono ?_); rintro e w1 ⟨rfl, b1⟩; replace hp := Lib.hid ((hp.out.below b1).alloc #[.int .i64 (xk : Int), .string (str xs), .int .i64 (xn : Int), .int .i64 (xp : Int)] 71); clear b1)
    generalize w1.alloc _ = W1 at hp ⊢
    generalize w1.heap.size = q at hp ⊢
    have y0 := hp.out.cell (i := 0) rfl 0; have y1 := hp.out.cell (i := 0) rfl 1
    have c1 := hp.out.cell (i := 1) rfl 1; have c2 := hp.out.cell (i := 1) rfl 2; have f1 := hp.out.free (i := 1) rfl 1
    simp at y0 y1 c1 c2
    go_wp2_with (first
      | (go_at_call 114; (with_reducible refine (kr.out _).mono ?_); rintro e w2 ⟨rfl, rfl⟩)
      | (go_at_call 115; (with_reducible refine (km.out _).mono ?_); rintro e w2 ⟨rfl, b2⟩; replace hp := Lib.hid (hp.out.below b2); clear b2 y0 y1 c1 c2 f1; have y0 := hp.out.cell (i := 0) rfl 0; have y1 := hp.out.cell (i := 0) rfl 1; have c1 := hp.out.cell (i := 1) rfl 1; have c2 := hp.out.cell (i := 1) rfl 2; have f1 := hp.out.free (i := 1) rfl 1; simp at y0 y1 c1 c2; have z1 : (w2.setCell ⟨g, 1, none⟩ (.int .i64 ((i : Int) + 1))).cell? ⟨q, 1, none⟩ = some (.string (str xs)) := ((hp.out.put (i := 1) rfl 1 (.int .i64 ((i : Int) + 1))).cell (i := 0) rfl 1).trans rfl))
    go_ret
    exact ⟨rfl, Pz.of h.out (hp.out.put (i := 1) rfl 1 (.int .i64 ((i : Int) + 1))) (i := 1) rfl (hstep.out (by have := h1.out; omega))⟩
theorem mayM_nil (ws : List W) (st : St) : (mayM ws st).1 = [] ∨ (1 ≤ (mayM ws st).1.length ∧ (mayM ws st).1.length ≤ 20) := by
  unfold mayM
  by_cases h : canB ws st = true
  · rw [if_pos h]
    unfold canB at h
    simp only [Bool.and_eq_true] at h
    exact Or.inr (names.mayN_len h.2.2.2)
  · rw [if_neg h]; exact Or.inl rfl
set_option maxHeartbeats 1000000 in
theorem name_any {ws : List W} {b cap g : Nat} {st : St} {w : World} (h : Pz ws b cap g st w) :
    Calls Tryd.prog 90 #[pv g] w (PR ws b cap g w (.string (str (nameM ws st).1)) (nameM ws st).2) := by
  have c := maybe_any h
  unfold nameM
  obtain ⟨⟨s, st1⟩, hR⟩ : ∃ R, R = mayM ws st := ⟨_, rfl⟩
  rw [← hR] at c ⊢
  simp only at c ⊢
  have km := fun W (hz : Pz ws b cap g st1 W) c => must_any hz c
  replace c := Lib.hid c; replace km := Lib.hid km
  clear h hR
  by_cases h0 : s = []
  · subst h0
    simp only [ne_eq, not_true_eq_false, decide_false]
    go_enter Tryd.func90, Tryd.ntmps90
    go_wp2_with (first
      | (go_at_call 105; (with_reducible refine c.out.mono ?_); rintro e w1 ⟨rfl, h1, k1⟩; replace h1 := Lib.hid h1; replace k1 := Lib.hid k1)
      | (go_at_call 54; (with_reducible refine (km.out _ h1.out _).mono ?_); rintro e w2 ⟨rfl, h2, k2⟩; replace h2 := Lib.hid h2; replace k2 := Lib.hid k2))
    go_ret
    exact ⟨rfl, h2.out, k1.out.trans k2.out⟩
  · have t1 : (s == []) = false := by simp [h0]
    have t1b : s.isEmpty = false := by simp [h0]
    have t2 : (s != []) = true := by rw [bne, t1]; rfl
    have hd : decide (s ≠ []) = true := by simp [h0]
    rw [hd]
    replace h0 := Lib.hid h0
    clear hd
    go_enter Tryd.func90, Tryd.ntmps90
    go_wp2_with (first
      | (go_at_call 105; (with_reducible refine c.out.mono ?_); rintro e w1 ⟨rfl, h1, k1⟩; replace h1 := Lib.hid h1; replace k1 := Lib.hid k1)
      | (go_at_call 54; (with_reducible refine (km.out _ h1.out _).mono ?_); rintro e w2 ⟨rfl, h2, k2⟩; replace h2 := Lib.hid h2; replace k2 := Lib.hid k2))
    go_ret
    exact ⟨rfl, h2.out, k1.out.trans k2.out⟩
set_option maxHeartbeats 1000000 in
theorem typed_any {ws : List W} {b cap g : Nat} {st : St} {w : World} (h : Pz ws b cap g st w) :
    Calls Tryd.prog 88 #[pv g] w (PR ws b cap g w (.tuple #[.string (str (typedM ws st).1), .string (str (typedM ws st).2.1)]) (typedM ws st).2.2) := by
  have c := maybe_any h
  unfold typedM
  simp only
  obtain ⟨⟨s, st1⟩, hR⟩ : ∃ R, R = mayM ws st := ⟨_, rfl⟩
  rw [← hR] at c ⊢
  simp only at c ⊢
  have km := fun W (hz : Pz ws b cap g st1 W) => mark_any hz [58]
  have e58 : str [58] = (⟨#[58]⟩ : ByteArray) := rfl
  rw [e58] at km
  unfold nextM at km
  replace c := Lib.hid c
  clear h hR e58
  cases hm : isM ws 4 [58] st1 with
  | true =>
    rw [hm] at km
    simp only [if_true] at km ⊢
    have kn := fun W (hz : Pz ws b cap g st1.adv W) => name_any hz
    obtain ⟨⟨t, st2⟩, hR2⟩ : ∃ R, R = nameM ws st1.adv := ⟨_, rfl⟩
    rw [← hR2] at kn ⊢
    simp only at kn ⊢
    replace km := Lib.hid km; replace kn := Lib.hid kn
    clear hm hR2
    go_enter Tryd.func88, Tryd.ntmps88
    go_wp2_with (first
      | (go_at_call 105; (with_reducible refine c.out.mono ?_); rintro e w1 ⟨rfl, h1, k1⟩; replace h1 := Lib.hid h1; replace k1 := Lib.hid k1)
      | (go_at_call 59; (with_reducible refine (km.out _ h1.out).mono ?_); rintro e w2 ⟨rfl, h2, k2⟩; replace h2 := Lib.hid h2; replace k2 := Lib.hid k2)
      | (go_at_call 90; (with_reducible refine (kn.out _ h2.out).mono ?_); rintro e w3 ⟨rfl, h3, k3⟩; replace h3 := Lib.hid h3; replace k3 := Lib.hid k3))
    go_ret2
    exact ⟨rfl, h3.out, (k1.out.trans k2.out).trans k3.out⟩
  | false =>
    rw [hm] at km
    simp only [Bool.false_eq_true, if_false] at km ⊢
    replace km := Lib.hid km
    clear hm
    go_enter Tryd.func88, Tryd.ntmps88
    go_wp2_with (first
      | (go_at_call 105; (with_reducible refine c.out.mono ?_); rintro e w1 ⟨rfl, h1, k1⟩; replace h1 := Lib.hid h1; replace k1 := Lib.hid k1)
      | (go_at_call 59; (with_reducible refine (km.out _ h1.out).mono ?_); rintro e w2 ⟨rfl, h2, k2⟩; replace h2 := Lib.hid h2; replace k2 := Lib.hid k2))
    go_ret2
    exact ⟨rfl, h2.out, k1.out.trans k2.out⟩
set_option maxHeartbeats 2000000 in
theorem num_any {ws : List W} {b cap g : Nat} {st : St} {w : World} (h : Pz ws b cap g st w) (most : Nat) (mI : Int) (hmI : mI = (most : Int)) :
    Calls Tryd.prog 61 #[pv g, .int .i64 mI] w (PR ws b cap g w (.int .i64 ((numM ws most st).1 : Int)) (numM ws most st).2) := by
  subst hmI
  have cw := word_any h
  have hstep := h.step
  have hp := Hp.lend h.box
  obtain ⟨x, hx⟩ : ∃ x, x = wd ws st.at_ := ⟨_, rfl⟩
  have hM : numB ws most st = (decide (x.kind = 2) && decide (x.n ≤ most)) := by rw [hx]; rfl
  obtain ⟨C, hC⟩ : ∃ C, C = numB ws most st := ⟨_, rfl⟩
  have hN : numM ws most st = if (mustM C st).bad then (0, mustM C st) else (x.n, st.adv) := by rw [hC, hx]; rfl
  obtain ⟨R, hR⟩ : ∃ R, R = numM ws most st := ⟨_, rfl⟩
  rw [← hR] at hN ⊢
  rw [← hC] at hM
  rw [← hx] at cw hstep
  obtain ⟨xk, xs, xn, xp⟩ := x
  simp only at cw hM hstep hN
  have hzz : ∀ (W : World) (rs : List Rs), Hp w [g] rs W → rs[1]? = some (.box g (psC b cap ws.length st) 68) → Pz ws b cap g st W := fun W rs hpW hi => (Pz.of h hpW hi h.lt).1
  obtain ⟨i, bd⟩ := st
  simp only at hstep
  have i3 : IntKind.i64.wrap ((i : Int) + 1) = (i : Int) + 1 := IntWalk.i64_in _ (by have := h.lt; have := h.wf.len; simp only at *; omega)
  clear hx hR hC
  replace cw := Lib.hid cw; replace h := Lib.hid h; replace hp := Lib.hid hp; replace hzz := Lib.hid hzz; replace hstep := Lib.hid hstep; replace hN := Lib.hid hN
  have key : (C = false ∧ xk ≠ 2) ∨ (C = false ∧ xk = 2 ∧ ¬ xn ≤ most) ∨ (C = true ∧ xk = 2 ∧ xn ≤ most) := by
    by_cases h1 : xk = 2
    · by_cases h2 : xn ≤ most
      · exact Or.inr (Or.inr ⟨by rw [hM]; simp [h1, h2], h1, h2⟩)
      · exact Or.inr (Or.inl ⟨by rw [hM]; simp [h1, h2], h1, h2⟩)
    · exact Or.inl ⟨by rw [hM]; simp [h1], h1⟩
  clear hM
  rcases key with ⟨rfl, h1⟩ | ⟨rfl, h1, h2⟩ | ⟨rfl, h1, h2⟩
  · have n1 : ((xk : Int) == 2) = false := by rw [beq_eq_false_iff_ne]; omega
    have n3 : ¬ (xk : Int) = 2 := by omega
    replace h1 := Lib.hid h1
    go_enter Tryd.func61, Tryd.ntmps61
    go_upto_region 2 with (go_at_call 23; (with_reducible refine cw.out.mono ?_); rintro e w1 ⟨rfl, b1⟩; replace hp := Lib.hid ((hp.out.below b1).alloc #[.int .i64 (xk : Int), .string (str xs), .int .i64 (xn : Int), .int .i64 (xp : Int)] 71); clear b1)
    generalize w1.alloc _ = W1 at hp ⊢
    generalize w1.heap.size = q at hp ⊢
    have y0 := hp.out.cell (i := 0) rfl 0; have y2 := hp.out.cell (i := 0) rfl 2
    simp at y0 y2
    have hz0 := hp.out.kp
    replace hz0 := Lib.hid hz0
    go_upto_region 3 with (go_at_call 54; (with_reducible refine (must_any (hzz.out _ _ hp.out rfl) false).mono ?_); rintro e w2 ⟨rfl, h2, k2⟩; replace h2 := Lib.hid h2; replace k2 := Lib.hid k2)
    have hb2 : w2.heap[g]? = some (.cells (psC b cap ws.length ⟨i, true⟩) 68 (0, 0)) := h2.out.box
    unfold psC at hb2
    have c2 : w2.cell? ⟨g, 2, none⟩ = some (.bool true) := cell_of_row _ _ 2 _ _ _ hb2
    replace hb2 := Lib.hid hb2
    have hN2 : R = (0, ⟨i, true⟩) := hN.out
    replace hN2 := Lib.hid hN2
    go_wp2
    go_ret
    exact ⟨by rw [hN2.out]; rfl, by rw [hN2.out]; exact h2.out, hz0.out.trans k2.out⟩
  · have n1 : ((xk : Int) == 2) = true := by rw [h1]; rfl
    have n3 : ¬ (xn : Int) ≤ (most : Int) := by omega
    replace h1 := Lib.hid h1
    go_enter Tryd.func61, Tryd.ntmps61
    go_upto_region 2 with (go_at_call 23; (with_reducible refine cw.out.mono ?_); rintro e w1 ⟨rfl, b1⟩; replace hp := Lib.hid ((hp.out.below b1).alloc #[.int .i64 (xk : Int), .string (str xs), .int .i64 (xn : Int), .int .i64 (xp : Int)] 71); clear b1)
    generalize w1.alloc _ = W1 at hp ⊢
    generalize w1.heap.size = q at hp ⊢
    have y0 := hp.out.cell (i := 0) rfl 0; have y2 := hp.out.cell (i := 0) rfl 2
    simp at y0 y2
    have hz0 := hp.out.kp
    replace hz0 := Lib.hid hz0
    go_upto_region 3 with (go_at_call 54; (with_reducible refine (must_any (hzz.out _ _ hp.out rfl) false).mono ?_); rintro e w2 ⟨rfl, h2, k2⟩; replace h2 := Lib.hid h2; replace k2 := Lib.hid k2)
    have hb2 : w2.heap[g]? = some (.cells (psC b cap ws.length ⟨i, true⟩) 68 (0, 0)) := h2.out.box
    unfold psC at hb2
    have c2 : w2.cell? ⟨g, 2, none⟩ = some (.bool true) := cell_of_row _ _ 2 _ _ _ hb2
    replace hb2 := Lib.hid hb2
    have hN2 : R = (0, ⟨i, true⟩) := hN.out
    replace hN2 := Lib.hid hN2
    go_wp2
    go_ret
    exact ⟨by rw [hN2.out]; rfl, by rw [hN2.out]; exact h2.out, hz0.out.trans k2.out⟩
  · have n1 : ((xk : Int) == 2) = true := by rw [h1]; rfl
    have n3 : (xn : Int) ≤ (most : Int) := by omega
    replace h1 := Lib.hid h1
    clear h2
    go_enter Tryd.func61, Tryd.ntmps61
    go_upto_region 2 with (go_at_call 23; (with_reducible refine cw.out.mono ?_); rintro e w1 ⟨rfl, b1⟩; replace hp := Lib.hid ((hp.out.below b1).alloc #[.int .i64 (xk : Int), .string (str xs), .int .i64 (xn : Int), .int .i64 (xp : Int)] 71); clear b1)
    generalize w1.alloc _ = W1 at hp ⊢
    generalize w1.heap.size = q at hp ⊢
    have y0 := hp.out.cell (i := 0) rfl 0; have y2 := hp.out.cell (i := 0) rfl 2
    simp at y0 y2
    go_upto_region 3 with (go_at_call 54; (with_reducible refine (must_any (hzz.out _ _ hp.out rfl) true).mono ?_); rintro e w2 ⟨rfl, h2, k2⟩; replace hp := Lib.hid (hp.out.call (i := 1) rfl (cs' := psC b cap ws.length ⟨i, bd⟩) h2.box k2))
    clear h2 k2 y0 y2
    have y2 := hp.out.cell (i := 0) rfl 2
    have c1 : w2.cell? ⟨g, 1, none⟩ = some (.int .i64 (i : Int)) := (hp.out.cell (i := 1) rfl 1).trans rfl
    have c2 : w2.cell? ⟨g, 2, none⟩ = some (.bool bd) := (hp.out.cell (i := 1) rfl 2).trans rfl
    have f1 := hp.out.free (i := 1) rfl 1
    have z1 : (w2.setCell ⟨g, 1, none⟩ (.int .i64 ((i : Int) + 1))).cell? ⟨q, 2, none⟩ = some (.int .i64 (xn : Int)) := ((hp.out.put (i := 1) rfl 1 (.int .i64 ((i : Int) + 1))).cell (i := 0) rfl 2).trans rfl
    simp at y2
    cases bd with
    | true =>
      have hN2 : R = (0, ⟨i, true⟩) := hN.out
      replace hN2 := Lib.hid hN2
      clear hN
      go_wp2
      go_ret
      exact ⟨by rw [hN2.out]; rfl, by rw [hN2.out]; exact Pz.of h.out hp.out (i := 1) rfl h.out.lt⟩
    | false =>
      have hN2 : R = (xn, ⟨i + 1, false⟩) := hN.out
      replace hN2 := Lib.hid hN2
      clear hN
      go_wp2
      go_ret
      exact ⟨by rw [hN2.out]; rfl, by rw [hN2.out]; exact Pz.of h.out (hp.out.put (i := 1) rfl 1 (.int .i64 ((i : Int) + 1))) (i := 1) rfl (hstep.out (by have := h1.out; omega))⟩
end Go.Proofs.YtgbkpkioijbgoaaDoor.qry
