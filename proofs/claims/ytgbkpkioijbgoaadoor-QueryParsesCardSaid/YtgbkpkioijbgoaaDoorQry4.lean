/- A question's parser (package query): what conditions are said with, properties, nodes. No condition but where the words and the tables lie. -/
import Derived.Test.YtgbkpkioijbgoaaDoorQry3
import Derived.Deep.CutRange
namespace Go.Proofs.YtgbkpkioijbgoaaDoor.qry
open Go.RowKit
open lex (W wv)
open names (Nm mayN)
attribute [local go_sem ↓] Go.wp_at_zero Go.wp_at_succ
attribute [local go_sem] str_size str_bl
set_option linter.unusedVariables false
set_option linter.unusedSimpArgs false
set_option maxRecDepth 100000

theorem op_hit (ws : List W) (st : St) : ∀ (l : List Nm) (k i : Nat) (m : Nm), l[i]? = some m → (∀ (j : Nat) (x : Nm), j < i → l[j]? = some x → isM ws 4 x st = false) → isM ws 4 m st = true → opF ws st l k = (k + i, st.adv)
  | [], k, i, m, hm, _, _ => by simp at hm
  | s :: l, k, 0, m, hm, _, h => by
    have e : s = m := by simpa using hm
    subst e
    unfold opF; rw [if_pos h]; rfl
  | s :: l, k, i + 1, m, hm, hp, h => by
    have h0 := hp 0 s (by omega) rfl
    unfold opF
    rw [if_neg (by rw [h0]; decide), op_hit ws st l (k + 1) i m (by simpa using hm) (fun j x hj hx => hp (j + 1) x (by omega) (by simpa using hx)) h]
    congr 1; omega
theorem op_miss (ws : List W) (st : St) : ∀ (l : List Nm) (k : Nat), (∀ (j : Nat) (x : Nm), l[j]? = some x → isM ws 4 x st = false) → opF ws st l k = (0, mustM false st)
  | [], k, _ => rfl
  | s :: l, k, hp => by
    unfold opF
    rw [if_neg (by rw [hp 0 s rfl]; decide)]
    exact op_miss ws st l (k + 1) (fun j x hx => hp (j + 1) x (by simpa using hx))
set_option maxHeartbeats 4000000 in
theorem op_any {ws : List W} {b cap g : Nat} {st : St} {w : World} (h : Pz ws b cap g st w) :
    Calls Tryd.prog 91 #[pv g] w (PR ws b cap g w (.int .i64 ((opM ws st).1 : Int)) (opM ws st).2) := by
  have hz0 := h
  have hp := Hp.lend h.box
  have hzz : ∀ (W : World) (rs : List Rs) (st' : St) (i : Nat), Hp w [g] rs W → rs[i]? = some (.box g (psC b cap ws.length st') 68) → st'.at_ < ws.length → Pz ws b cap g st' W := fun W rs st' i hpW hi hl => (Pz.of hz0 hpW hi hl).1
  have hst := h.lt
  replace h := Lib.hid h; replace hp := Lib.hid hp; replace hzz := Lib.hid hzz; replace hst := Lib.hid hst
  clear hz0
  obtain ⟨R, hR0⟩ : ∃ R, R = opM ws st := ⟨_, rfl⟩
  rw [← hR0]
  replace hR0 := Lib.hid hR0
  go_enter Tryd.func91, Tryd.ntmps91
  go_wp2
  go_loopg [4] 6 (fun kk s4 wr => ∃ i : Nat, s4 = .int .i64 (i : Int) ∧ i + kk = 6 ∧ (∀ (j : Nat) (x : Nm), j < i → opsL[j]? = some x → isM ws 4 x st = false) ∧ Hp w [g] [.box g (psC b cap ws.length st) 68] wr)
  case atStart => exact ⟨0, rfl, rfl, fun j x hj => by omega, hp.out⟩
  case round =>
    clear hp
    obtain ⟨i, rfl, hik, hpv, hp⟩ := hrel
    replace hp := Lib.hid hp
    by_cases hlt3 : i < 6
    · obtain ⟨K, rfl⟩ : ∃ K : Nat, gk = K + 1 := ⟨gk - 1, by omega⟩
      obtain ⟨m, hm⟩ : ∃ m, opsL[i]? = some m := ⟨_, List.getElem?_eq_getElem hlt3⟩
      have hzw := hzz.out _ _ st 0 hp.out rfl hst.out
      have d0 := hzw.op.2 i m hm
      have kk := mark_any hzw m
      have e0 : (i : Int) < 6 := by omega
      have e1 : (0 : Int) ≤ (i : Int) := by omega
      unfold nextM at kk
      cases hmk : isM ws 4 m st with
      | true =>
        rw [hmk] at kk
        simp only [if_true] at kk
        have hfin := hR0.out.trans ((op_hit ws st opsL 0 i m hm hpv hmk).trans (by rw [Nat.zero_add]))
        subst hfin
        replace kk := Lib.hid kk
        clear hmk hzw hpv hm hR0
        go_wp2_with (go_at_call 59; (with_reducible refine kk.out.mono ?_); rintro e w1 ⟨rfl, h1, k1⟩; have hl1 := Lib.hid h1.lt; replace hp := Lib.hid (hp.out.call (i := 0) rfl (cs' := psC b cap ws.length st.adv) h1.box k1); clear h1 k1)
        go_ret
        exact ⟨rfl, Pz.of h.out hp.out (i := 0) rfl hl1.out⟩
      | false =>
        rw [hmk] at kk
        simp only [Bool.false_eq_true, if_false] at kk
        have hpv2 := Lib.hid (show ∀ (j : Nat) (x : Nm), j < i + 1 → opsL[j]? = some x → isM ws 4 x st = false from fun j x hj hx => by
          by_cases hji : j < i
          · exact hpv j x hji hx
          · obtain rfl : j = i := by omega
            rw [hm] at hx; injection hx with hx; rw [← hx]; exact hmk)
        replace kk := Lib.hid kk; replace hik := Lib.hid hik
        clear hmk hzw hpv hm hlt3
        go_wp2_with (go_at_call 59; (with_reducible refine kk.out.mono ?_); rintro e w1 ⟨rfl, h1, k1⟩; replace hp := Lib.hid (hp.out.call (i := 0) rfl (cs' := psC b cap ws.length st) h1.box k1); clear h1 k1)
        go_roundg K
        case measure => omega
        case rel => exact ⟨i + 1, by go_num, by have := hik.out; omega, hpv2.out, hp.out⟩
    · have hk0 : gk = 0 := by omega
      subst hk0
      obtain rfl : i = 6 := by omega
      have hfin := hR0.out.trans (op_miss ws st opsL 0 (fun j x hx => hpv j x (List.getElem?_eq_some_iff.1 hx).1 hx))
      subst hfin
      have e0 : ¬ ((6 : Nat) : Int) < 6 := by omega
      have km := must_any (hzz.out _ _ st 0 hp.out rfl hst.out) false
      replace km := Lib.hid km
      clear hpv hik hlt3 hR0
      go_wp2_with (go_at_call 54; (with_reducible refine km.out.mono ?_); rintro e w1 ⟨rfl, h1, k1⟩; have hl1 := Lib.hid h1.lt; replace hp := Lib.hid (hp.out.call (i := 0) rfl (cs' := psC b cap ws.length (mustM false st)) h1.box k1); clear h1 k1)
      go_ret
      exact ⟨rfl, Pz.of h.out hp.out (i := 0) rfl hl1.out⟩
/-- onward, never back -/
theorem le_adv (st : St) : st.at_ ≤ st.adv.at_ := Nat.le_succ _
theorem le_must (c : Bool) (st : St) : st.at_ ≤ (mustM c st).at_ := by unfold mustM; split <;> exact Nat.le_refl _
theorem le_next (ws : List W) (k : Nat) (s : Nm) (st : St) : st.at_ ≤ (nextM ws k s st).at_ := by unfold nextM; split; exact le_adv st; exact Nat.le_refl _
theorem le_need (ws : List W) (k : Nat) (s : Nm) (st : St) : st.at_ ≤ (needM ws k s st).at_ := Nat.le_trans (le_next ws k s st) (le_must _ _)
theorem le_may (ws : List W) (st : St) : st.at_ ≤ (mayM ws st).2.at_ := by unfold mayM; split; exact le_adv st; exact Nat.le_refl _
theorem le_name (ws : List W) (st : St) : st.at_ ≤ (nameM ws st).2.at_ := Nat.le_trans (le_may ws st) (le_must _ _)
theorem le_num (ws : List W) (m : Nat) (st : St) : st.at_ ≤ (numM ws m st).2.at_ := by unfold numM; split; exact le_must _ st; exact le_adv st
theorem le_val (ws : List W) (st : St) : st.at_ ≤ (valM ws st).2.at_ := by
  unfold valM
  split
  · exact le_adv st
  · split
    · exact le_adv st
    · split
      · exact le_adv st
      · split
        · exact Nat.le_trans (le_adv st) (le_num _ _ _)
        · split
          · exact le_adv st
          · exact le_num _ _ _
theorem le_prop (ws : List W) (st : St) : st.at_ ≤ (propM ws st).2.at_ := Nat.le_trans (Nat.le_trans (le_name ws st) (le_need ws 4 [58] _)) (le_val ws _)
theorem is_good {ws : List W} {k : Nat} {s : Nm} {st : St} (h : isM ws k s st = true) : st.bad = false := by
  unfold isM at h
  simp only [Bool.and_eq_true] at h
  simpa using h.1
def Pp.cells (p : Pp) : List Value := [.string (str p.name), .int .i64 (p.val.k : Int), .int .i64 p.val.n, .string (str p.val.s)]
theorem Pp.cells_len (p : Pp) : p.cells.length = 4 := rfl
theorem pairInfo4 : (Tryd.prog.info? 98).map (fun i => (i.zero, i.size, i.bytes)) = some (some (.agg #[.string ⟨#[]⟩, .int .i64 0, .int .i64 0, .string ⟨#[]⟩]), 4, 48) := by kernel_rfl
set_option maxHeartbeats 8000000 in
theorem props_any {ws : List W} {b cap g : Nat} {st : St} {w : World} (h : Pz ws b cap g st w) :
    Calls Tryd.prog 89 #[pv g] w fun e w' => ∃ (ad : Option Addr) (cp : Nat), e = .returned (.slice ad (propsM ws st).1.length cp) ∧ Hp w [g] [.row 98 4 (.slice ad (propsM ws st).1.length cp) (propsM ws st).1.length ((propsM ws st).1.flatMap Pp.cells), .box g (psC b cap ws.length (propsM ws st).2) 68] w' ∧ (propsM ws st).2.at_ < ws.length := by
  have hz0 := h
  have hwl := h.wf.len
  have hp := (Hp.lend h.box).rowNil 98 4
  have hzz : ∀ (W : World) (rs : List Rs) (st' : St) (i : Nat), Hp w [g] rs W → rs[i]? = some (.box g (psC b cap ws.length st') 68) → st'.at_ < ws.length → Pz ws b cap g st' W := fun W rs st' i hpW hi hl => (Pz.of hz0 hpW hi hl).1
  have hst := h.lt
  obtain ⟨RES, hRES⟩ : ∃ r, r = if st.bad then ([], st) else propsF ws (ws.length + 1) st [] := ⟨_, rfl⟩
  obtain ⟨F, hF⟩ : ∃ F, F = propsM ws st := ⟨_, rfl⟩
  have hFR : F = (RES.1, needM ws 4 [125] RES.2) := by rw [hF, hRES]; rfl
  rw [← hF]
  have hstart : (st.bad = false ∧ propsF ws (ws.length + 1) st [] = RES ∧ ws.length < st.at_ + (ws.length + 1)) ∨ (st.bad = true ∧ RES = ([], st)) := by
    cases hb : st.bad
    · exact Or.inl ⟨rfl, by rw [hRES, hb]; rfl, by omega⟩
    · exact Or.inr ⟨rfl, by rw [hRES, hb]; rfl⟩
  clear hF hRES hz0
  replace h := Lib.hid h; replace hp := Lib.hid hp; replace hzz := Lib.hid hzz; replace hst := Lib.hid hst; replace hFR := Lib.hid hFR; replace hstart := Lib.hid hstart; replace hwl := Lib.hid hwl
  go_enter Tryd.func89, Tryd.ntmps89
  go_wp2
  go_loopg [3, 4] (ws.length + 1) (fun kk s3 s4 wr => ∃ (c : Bool) (st' : St) (acc : List Pp) (ad : Option Addr) (cp : Nat), s4 = .bool c ∧ s3 = .slice ad acc.length cp ∧ Hp w [g] [.row 98 4 (.slice ad acc.length cp) acc.length (acc.flatMap Pp.cells), .box g (psC b cap ws.length st') 68] wr ∧ st'.at_ < ws.length ∧ ((c = true ∧ st'.bad = false ∧ propsF ws kk st' acc = RES ∧ ws.length < st'.at_ + kk ∧ acc.length ≤ st'.at_) ∨ ((c = false ∨ st'.bad = true) ∧ RES = (acc, st'))))
  case atStart =>
    exact ⟨true, st, [], none, 0, rfl, rfl, hp.out, hst.out, by
      rcases hstart.out with ⟨h1, h2, h3⟩ | ⟨h1, h2⟩
      · exact Or.inl ⟨rfl, h1, h2, h3, Nat.zero_le _⟩
      · exact Or.inr ⟨Or.inr h1, h2⟩⟩
  case round =>
    clear hp hst hstart
    obtain ⟨c, st', acc, ad, cp, rfl, rfl, hp, hl0, hcase⟩ := hrel
    have c2 : wr.cell? ⟨g, 2, none⟩ = some (.bool st'.bad) := (hp.cell (i := 1) rfl 2).trans rfl
    replace hl0 := Lib.hid hl0
    rcases hcase with ⟨rfl, hgd, hpf, hfu, hal⟩ | ⟨hcb, hR⟩
    · obtain ⟨K, rfl⟩ : ∃ K : Nat, gk = K + 1 := ⟨gk - 1, by have := hl0.out; omega⟩
      rw [hgd] at c2
      rw [propsF] at hpf
      have hle := le_prop ws st'
      have hPd : propM ws st' = (⟨(nameM ws st').1, (valM ws (needM ws 4 [58] (nameM ws st').2)).1⟩, (valM ws (needM ws 4 [58] (nameM ws st').2)).2) := rfl
      have cn := fun W (hz : Pz ws b cap g st' W) => name_any hz
      obtain ⟨⟨nm, s1⟩, hn1⟩ : ∃ r, r = nameM ws st' := ⟨_, rfl⟩
      rw [← hn1] at cn hPd
      simp only at cn hPd
      have cm := fun W (hz : Pz ws b cap g s1 W) => mark_any hz [58]
      have e58 : str [58] = (⟨#[58]⟩ : ByteArray) := rfl
      rw [e58] at cm
      have cu := fun W (hz : Pz ws b cap g (nextM ws 4 [58] s1) W) => must_any hz (isM ws 4 [58] s1)
      have hnd : needM ws 4 [58] s1 = mustM (isM ws 4 [58] s1) (nextM ws 4 [58] s1) := rfl
      obtain ⟨m1, hm1⟩ : ∃ r, r = isM ws 4 [58] s1 := ⟨_, rfl⟩
      obtain ⟨s2, hs2⟩ : ∃ r, r = nextM ws 4 [58] s1 := ⟨_, rfl⟩
      rw [← hm1, ← hs2] at cm cu hnd
      obtain ⟨s3, hs3⟩ : ∃ r, r = mustM m1 s2 := ⟨_, rfl⟩
      rw [← hs3] at cu hnd
      rw [hnd] at hPd
      have cv := fun W (hz : Pz ws b cap g s3 W) => val_any hz
      obtain ⟨⟨vl, s4⟩, hv⟩ : ∃ r, r = valM ws s3 := ⟨_, rfl⟩
      rw [← hv] at cv hPd
      simp only at cv hPd
      rw [hPd] at hpf hle
      simp only at hpf hle
      have ck := fun W (hz : Pz ws b cap g s4 W) => mark_any hz [44]
      have e44 : str [44] = (⟨#[44]⟩ : ByteArray) := rfl
      rw [e44] at ck
      have hgood : isM ws 4 [44] s4 = true → s4.bad = false := is_good
      have hnx : nextM ws 4 [44] s4 = if isM ws 4 [44] s4 then s4.adv else s4 := rfl
      obtain ⟨m5, hm5⟩ : ∃ r, r = isM ws 4 [44] s4 := ⟨_, rfl⟩
      obtain ⟨s5, hs5⟩ : ∃ r, r = nextM ws 4 [44] s4 := ⟨_, rfl⟩
      rw [← hm5] at ck hpf hgood hnx
      rw [← hs5] at ck hnx
      obtain ⟨vk, vn, vs⟩ := vl
      unfold V.a at cv
      simp only at cv
      obtain ⟨acc2, hacc⟩ : ∃ a, a = acc ++ [⟨nm, vk, vn, vs⟩] := ⟨_, rfl⟩
      rw [← hacc] at hpf
      have hal2 : acc2.length = acc.length + 1 := by rw [hacc]; simp
      have hcl : acc2.flatMap Pp.cells = acc.flatMap Pp.cells ++ [.string (str nm), .int .i64 (vk : Int), .int .i64 vn, .string (str vs)] := by rw [hacc, List.flatMap_append]; rfl
      have hnext : (m5 = true ∧ s5.bad = false ∧ propsF ws K s5 acc2 = RES ∧ ws.length < s5.at_ + K ∧ acc2.length ≤ s5.at_) ∨ ((m5 = false ∨ s5.bad = true) ∧ RES = (acc2, s5)) := by
        cases m5
        · rw [if_neg (by decide)] at hpf hnx
          exact Or.inr ⟨Or.inl rfl, by rw [hnx]; exact hpf.symm⟩
        · rw [if_pos rfl] at hpf hnx
          rw [hnx]
          exact Or.inl ⟨rfl, hgood rfl, hpf, by show ws.length < s4.at_ + 1 + K; omega, by rw [hal2]; show acc.length + 1 ≤ s4.at_ + 1; omega⟩
      have hl9 := Lib.hid (show acc.length < 100000000 by have := hl0.out; have := hwl.out; omega)
      obtain ⟨M, hM⟩ : ∃ M, M = acc.flatMap Pp.cells := ⟨_, rfl⟩
      rw [← hM] at hp hcl
      obtain ⟨na, hna⟩ : ∃ n, n = acc.length := ⟨_, rfl⟩
      rw [← hna] at hp hal2 hl9 ⊢
      clear hn1 hm1 hs2 hs3 hv hm5 hs5 hnd hPd hgood hnx e58 e44 hM hna hpf hle hfu hacc hal
      replace cn := Lib.hid cn; replace cm := Lib.hid cm; replace cu := Lib.hid cu; replace cv := Lib.hid cv; replace ck := Lib.hid ck; replace hp := Lib.hid hp; replace hnext := Lib.hid hnext; replace hal2 := Lib.hid hal2; replace hcl := Lib.hid hcl; replace hgd := Lib.hid hgd
      go_wp2_with (first
        | (go_at_call 90; (with_reducible refine (cn.out _ (hzz.out _ _ st' 1 hp.out rfl hl0.out)).mono ?_); rintro e w1 ⟨rfl, h1, k1⟩; have l1 := Lib.hid h1.lt; replace hp := Lib.hid (hp.out.call (i := 1) rfl (cs' := psC b cap ws.length s1) h1.box k1); clear h1 k1)
        | (go_at_call 59; (with_reducible refine (cm.out _ (hzz.out _ _ s1 1 hp.out rfl l1.out)).mono ?_); rintro e w2 ⟨rfl, h2, k2⟩; have l2 := Lib.hid h2.lt; replace hp := Lib.hid (hp.out.call (i := 1) rfl (cs' := psC b cap ws.length s2) h2.box k2); clear h2 k2)
        | (go_at_call 54; (with_reducible refine (cu.out _ (hzz.out _ _ s2 1 hp.out rfl l2.out)).mono ?_); rintro e w3 ⟨rfl, h3, k3⟩; have l3 := Lib.hid h3.lt; replace hp := Lib.hid (hp.out.call (i := 1) rfl (cs' := psC b cap ws.length s3) h3.box k3); clear h3 k3)
        | (go_at_call 92; (with_reducible refine (cv.out _ (hzz.out _ _ s3 1 hp.out rfl l3.out)).mono ?_); rintro e w4 ⟨rfl, h4, k4⟩; have l4 := Lib.hid h4.lt; replace hp := Lib.hid (hp.out.call (i := 1) rfl (cs' := psC b cap ws.length s4) h4.box k4); clear h4 k4)
        | (go_at_call 59; (with_reducible refine (ck.out _ (hzz.out _ _ s4 1 hp.out rfl l4.out)).mono ?_); rintro e w7 ⟨rfl, h7, k7⟩; have l7 := Lib.hid h7.lt; replace hp := Lib.hid (hp.out.call (i := 1) rfl (cs' := psC b cap ws.length s5) h7.box k7); clear h7 k7)
        | (at_builtin; go_loud (refine wpList_append_hp rfl _ _ rfl Tryd.underlying46 pairInfo4 rfl (by decide) (by decide) (hp.out.alloc_ (.cells #[.string (str nm), .int .i64 (vk : Int), .int .i64 vn, .string (str vs)] 98)) 0 rfl rfl _ _ [.string (str nm), .int .i64 (vk : Int), .int .i64 vn, .string (str vs)] rfl rfl (block_cells (heap_alloc_new _ _)) (by intro u hu; simp at hu; rcases hu with rfl | rfl | rfl | rfl <;> rfl) hl9.out ?_; intro v5 w5 hp5 hv5; replace hp := Lib.hid hp5; clear hp5; obtain ⟨ad5, cp5, rfl⟩ := hv5)))
      go_roundg K
      case measure => omega
      case rel => exact ⟨m5, s5, acc2, _, _, rfl, by rw [hal2.out], by rw [hal2.out, hcl.out]; exact hp.out, l7.out, hnext.out⟩
    · have hfn : RES = (acc, st') := hR
      subst hfn
      simp only at hFR
      have cm := fun W (hz : Pz ws b cap g st' W) => mark_any hz [125]
      have e125 : str [125] = (⟨#[125]⟩ : ByteArray) := rfl
      rw [e125] at cm
      have cu := fun W (hz : Pz ws b cap g (nextM ws 4 [125] st') W) => must_any hz (isM ws 4 [125] st')
      have hnd : needM ws 4 [125] st' = mustM (isM ws 4 [125] st') (nextM ws 4 [125] st') := rfl
      obtain ⟨m1, hm1⟩ : ∃ r, r = isM ws 4 [125] st' := ⟨_, rfl⟩
      obtain ⟨s2, hs2⟩ : ∃ r, r = nextM ws 4 [125] st' := ⟨_, rfl⟩
      rw [← hm1, ← hs2] at cm cu hnd
      obtain ⟨s3, hs3⟩ : ∃ r, r = mustM m1 s2 := ⟨_, rfl⟩
      rw [← hs3] at cu hnd
      have hF2 := hFR.out
      rw [hnd] at hF2
      clear hFR hm1 hs2 hs3 hnd e125
      replace cm := Lib.hid cm; replace cu := Lib.hid cu; replace hp := Lib.hid hp
      replace hF2 := Lib.hid hF2
      have hcc : (c = false) ∨ (c = true ∧ st'.bad = true) := by
        cases c
        · exact Or.inl rfl
        · exact Or.inr ⟨rfl, hcb.resolve_left (by decide)⟩
      clear hcb
      rcases hcc with rfl | ⟨rfl, hbd⟩
      · clear c2
        go_wp2_with (first
          | (go_at_call 59; (with_reducible refine (cm.out _ (hzz.out _ _ st' 1 hp.out rfl hl0.out)).mono ?_); rintro e w1 ⟨rfl, h1, k1⟩; have l1 := Lib.hid h1.lt; replace hp := Lib.hid (hp.out.call (i := 1) rfl (cs' := psC b cap ws.length s2) h1.box k1); clear h1 k1)
          | (go_at_call 54; (with_reducible refine (cu.out _ (hzz.out _ _ s2 1 hp.out rfl l1.out)).mono ?_); rintro e w2 ⟨rfl, h2, k2⟩; have l2 := Lib.hid h2.lt; replace hp := Lib.hid (hp.out.call (i := 1) rfl (cs' := psC b cap ws.length s3) h2.box k2); clear h2 k2))
        go_ret
        have hF3 := hF2.out
        subst hF3
        exact ⟨_, _, rfl, hp.out, l2.out⟩
      · rw [hbd] at c2
        replace hbd := Lib.hid hbd
        go_wp2_with (first
          | (go_at_call 59; (with_reducible refine (cm.out _ (hzz.out _ _ st' 1 hp.out rfl hl0.out)).mono ?_); rintro e w1 ⟨rfl, h1, k1⟩; have l1 := Lib.hid h1.lt; replace hp := Lib.hid (hp.out.call (i := 1) rfl (cs' := psC b cap ws.length s2) h1.box k1); clear h1 k1)
          | (go_at_call 54; (with_reducible refine (cu.out _ (hzz.out _ _ s2 1 hp.out rfl l1.out)).mono ?_); rintro e w2 ⟨rfl, h2, k2⟩; have l2 := Lib.hid h2.lt; replace hp := Lib.hid (hp.out.call (i := 1) rfl (cs' := psC b cap ws.length s3) h2.box k2); clear h2 k2))
        go_ret
        have hF3 := hF2.out
        subst hF3
        exact ⟨_, _, rfl, hp.out, l2.out⟩
end Go.Proofs.YtgbkpkioijbgoaaDoor.qry
