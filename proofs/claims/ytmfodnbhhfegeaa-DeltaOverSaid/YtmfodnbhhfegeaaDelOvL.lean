/- The law of entries behind changes, whole: for every slice of acts, every slice of changes and every number. No condition. -/
import Derived.Test.YtmfodnbhhfegeaaDelPlays
import Derived.Test.YtmfodnbhhfegeaaDelOver
namespace Go.Proofs.Ytmfodnbhhfegeaa.delta
open Go.RowKit
attribute [local go_sem ↓] Go.wp_at_zero Go.wp_at_succ
set_option linter.unusedVariables false
set_option maxRecDepth 100000

theorem and_63 (x : Int) : bits .and .i64 x 63 = x % 64 := and_mask x 6 63 (by decide) (by decide)
theorem argAct {w : World} {a : Option Addr} {len : Nat} (h : SliceArg w a len 4 (fun j v => match j with | 0 => ∃ x, v = .int .i64 x ∧ (Lit.int .i64 x).wf = true | 1 => ∃ x, v = .int .i64 x ∧ (Lit.int .i64 x).wf = true | 2 => ∃ x, v = .string x ∧ x.size ≤ maxLen | 3 => ∃ x, v = .int .i64 x ∧ (Lit.int .i64 x).wf = true | _ => False)) (k : Nat) (hk : k ≤ len) :
    ∃ X : List (Int × ByteArray), X.length = k ∧ ∀ (i : Nat) (x : Int × ByteArray), X[i]? = some x → x.2.size ≤ 9223372036854775807 ∧ ∃ b o, a = some ⟨b, o, none⟩ ∧ b < w.heap.size ∧ w.cell? ⟨b, o + i * 4 + 1, none⟩ = some (.int .i64 x.1) ∧ w.cell? ⟨b, o + i * 4 + 2, none⟩ = some (.string x.2) := by
  obtain ⟨X, hX, hR⟩ := list_of (fun i (x : Int × ByteArray) => x.2.size ≤ 9223372036854775807 ∧ ∃ b o, a = some ⟨b, o, none⟩ ∧ b < w.heap.size ∧ w.cell? ⟨b, o + i * 4 + 1, none⟩ = some (.int .i64 x.1) ∧ w.cell? ⟨b, o + i * 4 + 2, none⟩ = some (.string x.2)) k (fun i hi => by
    obtain ⟨_, h2⟩ := h
    obtain ⟨b, o, ha, hb, hc⟩ := h2.resolve_left (by omega)
    obtain ⟨v1, c1, x1, rfl, w1⟩ := hc i (by omega) 1 (by omega)
    obtain ⟨v2, c2, x2, rfl, w2⟩ := hc i (by omega) 2 (by omega)
    exact ⟨(x1, x2), w2, b, o, ha, hb, c1, c2⟩)
  exact ⟨X, hX, hR⟩
theorem hp_head2 {w W : World} {X : List Nat} {a b : Rs} : ∀ {rs : List Rs}, Hp w X (a :: b :: rs) W → Hp w X [b, a] W
  | [], h => h.perm (List.Perm.swap _ _ _)
  | c :: t, h => hp_head2 (rs := t) (h.drop 2)
/-- what is wanted lies in elder memory, or in a row of its own -/
def WantAt (w6 : World) (T : List En) (v : Value) (rest : List Rs) : Prop := (rest = [] ∧ Sl w6 v T.length (enC T)) ∨ rest = [.row 43 2 v T.length (enC T)]
theorem WantAt.sl {w6 W : World} {T : List En} {v : Value} {rest ahead : List Rs} (h : WantAt w6 T v rest) (hp : Hp w6 [] (ahead ++ rest) W) (hT : T.length ≤ 1000) : Sl W v T.length (enC T) := by
  rcases h with ⟨rfl, h⟩ | rfl
  · exact h.below hp.bel
  · exact hp.sl (i := ahead.length) (e := 43) (size := 2) (by simp) (by omega)
theorem rowCap' {W : World} {base : Nat} {e : TypeId} {size n cap : Nat} {ad : Option Addr} {xs : List Value} (h : W.ownsRow base e size (.slice ad n cap) n xs) : n ≤ cap := by
  rcases h.2 with ⟨h0, h1⟩ | ⟨g', cap', cur, hv, hb, hg, h1, h2, h3, h4⟩
  · injection h0 with _ h5 h6; omega
  · injection hv with hv1 hv2 hv3
    subst hv3
    exact h1
theorem enC_len (l : List En) : (enC l).length = l.length * 2 := flat_len En.c 2 En.c_len l
theorem enC_take (l : List En) (i : Nat) : (enC l).take (i * 2) = enC (l.take i) := by
  induction l generalizing i with
  | nil => simp [enC]
  | cons x t ih =>
    cases i with
    | zero => simp [enC]
    | succ i =>
      have e : (i + 1) * 2 = i * 2 + 1 + 1 := by omega
      rw [e, List.take_succ_cons, enC, enC, List.flatMap_cons, List.flatMap_cons]
      show List.take (i * 2 + 1 + 1) (.string x.k :: .string x.v :: t.flatMap En.c) = _
      rw [List.take_succ_cons, List.take_succ_cons]
      have := ih i
      unfold enC at this
      rw [this]; rfl
theorem sl_take {W : World} {T : List En} {ad : Option Addr} {n cp k : Nat} (h : Sl W (.slice ad n cp) n (enC T)) (hn : n = T.length) (hk : k ≤ n) : Sl W (.slice ad k cp) k (enC (T.take k)) := by
  obtain ⟨a, c, hv, hm, h⟩ := h
  injection hv with h1 h2 h3
  subst h1 h3
  refine ⟨ad, cp, rfl, by omega, ?_⟩
  rcases h with h | ⟨b, o, rfl, hb, hc⟩
  · left; omega
  · right
    refine ⟨b, o, rfl, hb, fun j u hj => hc j u ?_⟩
    rw [← enC_take, List.getElem?_take] at hj
    split at hj
    · exact hj
    · cases hj
set_option maxHeartbeats 8000000 in
theorem deltaOver_walk (a0 : Option Addr) (len0 cap0 : Nat) (a1 : Option Addr) (len1 cap1 : Nat) (a2 : Int) (w : World) (w0 : SliceArg w a0 len0 4 (fun j v => match j with | 0 => ∃ x, v = .int .i64 x ∧ (Lit.int .i64 x).wf = true | 1 => ∃ x, v = .int .i64 x ∧ (Lit.int .i64 x).wf = true | 2 => ∃ x, v = .string x ∧ x.size ≤ maxLen | 3 => ∃ x, v = .int .i64 x ∧ (Lit.int .i64 x).wf = true | _ => False)) (w1 : SliceArg w a1 len1 3 (fun j v => match j with | 0 => ∃ x, v = .string x ∧ x.size ≤ maxLen | 1 => ∃ x, v = .string x ∧ x.size ≤ maxLen | 2 => ∃ x, v = .bool x | _ => False)) (w2 : (Lit.int .i64 a2).wf = true) :
    Calls Try.prog 11 #[.slice a0 len0 cap0, .slice a1 len1 cap1, .int .i64 a2] w fun e w' => e = .returned (.bool true) ∧ Below w.heap.size w w' := by
  obtain ⟨K, hK⟩ : ∃ K, K = min len0 30 := ⟨_, rfl⟩
  obtain ⟨X, hX, hR⟩ := argAct w0 K (by omega)
  have hl63 := w0.1
  have hK30 : K ≤ 30 := by omega
  have hKl : K ≤ len0 := by omega
  have hKe : K = len0 ∨ K = 30 := by omega
  obtain ⟨J, hJ⟩ : ∃ J, J = min len1 30 := ⟨_, rfl⟩
  obtain ⟨Y, hY, hQ⟩ := argCh w1 J (by omega)
  have hm63 := w1.1
  have hJ30 : J ≤ 30 := by omega
  have hJl : J ≤ len1 := by omega
  have hJe : J = len1 ∨ J = 30 := by omega
  have hp0 := Lib.hid ((Hp.none_ w []).rowLit #[] 43 2 0 (by decide) rfl)
  have hNN := and_63 a2
  obtain ⟨N, hN⟩ : ∃ N : Nat, a2 % 64 = (N : Int) := ⟨(a2 % 64).toNat, by omega⟩
  have hN64 : N < 64 := by omega
  rw [hN] at hNN
  replace hX := Lib.hid hX; replace hR := Lib.hid hR; replace hY := Lib.hid hY; replace hQ := Lib.hid hQ; replace hNN := Lib.hid hNN
  clear w0 w1 w2 hK hJ hN
  go_enter Try.func11, Try.ntmps11
  go_wp2
  go_loopw [7, 8] (fun s7 s8 wr => ∃ (i : Nat) (A : List En) (ad : Option Addr) (cp : Nat), s8 = .int .i64 (i : Int) ∧ i ≤ K ∧ s7 = .slice ad A.length cp ∧ A.length ≤ i ∧ SrtE A ∧ Hp w [] [.row 43 2 (.slice ad A.length cp) A.length (enC A)] wr) (fun _ s8 _ => K - (intOf s8).toNat)
  case atStart => exact ⟨0, [], _, _, rfl, by omega, rfl, by simp, by simp [SrtE], hp0.out⟩
  case round =>
    clear hp0
    obtain ⟨i, A, ad, cp, rfl, hi, rfl, hAi, hA, hp⟩ := hrel
    by_cases hlt : i < K
    · have g1 : (i : Int) < (len0 : Int) := by omega
      have g2 : (i : Int) < 30 := by omega
      have g3 : (0 : Int) ≤ (i : Int) := by omega
      obtain ⟨x, hx⟩ : ∃ x, X[i]? = some x := ⟨_, List.getElem?_eq_getElem (by have := hX.out; omega)⟩
      obtain ⟨hsz, b, o, rfl, hbw, c1, c2⟩ := hR.out i x hx
      obtain ⟨KK, S⟩ := x
      simp only at hsz c1 c2
      have hrx := Lib.hid (fun W (hb : Below w.heap.size w W) => (And.intro ((hb.cell (p := ⟨b, o + i * 4 + 1, none⟩) hbw).trans c1) ((hb.cell (p := ⟨b, o + i * 4 + 2, none⟩) hbw).trans c2) : W.cell? ⟨b, o + i * 4 + 1, none⟩ = some (.int .i64 KK) ∧ W.cell? ⟨b, o + i * 4 + 2, none⟩ = some (.string S)))
      obtain ⟨q, hq⟩ : ∃ q, q = min S.size 5 := ⟨_, rfl⟩
      have q1 : min (S.size : Int) 5 = (q : Int) := by omega
      have q2 : (if (S.size : Int) < 5 then (S.size : Int) else 5) = (q : Int) := by split <;> omega
      have q3 : (q : Int) ≤ (S.size : Int) := by omega
      have q4 : q ≤ S.size := by omega
      have hwith : ∀ (ks : ByteArray) W (v : Value), Sl W v A.length (enC A) → Calls Try.prog 59 #[v, .string ks, .string (S.extract 0 q), .bool false] W fun e w' => ∃ v', e = .returned v' ∧ ∃ A', SrtE A' ∧ A'.length ≤ A.length + 1 ∧ (∃ ad cp, v' = .slice ad A'.length cp) ∧ Hp W [] [.row 43 2 v' A'.length (enC A')] w' := fun ks W v h => by
        refine (withEn_any ks (S.extract 0 q) false v A W h (by omega) (withE_len _ _ _ _ hA)).mono ?_
        rintro e w' ⟨v', rfl, h1, h2⟩
        exact ⟨v', rfl, _, withE_srt _ _ _ _ hA, withE_len _ _ _ _ hA, h1, h2⟩
      have hAS := Lib.hid (show A.length ≤ 140737488355328 by omega)
      replace hp := Lib.hid hp.drew; replace hA := Lib.hid hA; replace hwith := Lib.hid hwith
      clear hx hbw c1 c2 hq hsz
      go_upto_region 5 with fail
      refine wp_region_noPanic ?_; refine wp_region_held_drew (S := (fun W' => W'.cell? ⟨b, o + i * 4 + 1, none⟩ = some (.int .i64 KK) ∧ W'.cell? ⟨b, o + i * 4 + 2, none⟩ = some (.string S))) (by kernel_rfl) ?_ (fun hHeld => ?_); (focus ((try dsimp only); exact hrx.out _ hp.out.bel; done)); (refine take_t (i := 0) (d := 27) (oi := _) (v := ?_) rfl rfl (by kernel_rfl) (by kernel_rfl) (by kernel_rfl) (by rfl) ?_ (by assumption) ?_; rotate_left; (focus (intro w0 hSw; (try dsimp only at hSw); go_simp; (try with_reducible rfl); done)); try simp only [Act.put, List.setIfInBounds_toArray, List.set_cons_zero, List.set_cons_succ]); (refine take_t (i := 1) (d := 28) (oi := _) (v := ?_) rfl rfl (by kernel_rfl) (by kernel_rfl) (by kernel_rfl) (by rfl) ?_ (by assumption) ?_; rotate_left; (focus (intro w0 hSw; (try dsimp only at hSw); go_simp; (try with_reducible rfl); done)); try simp only [Act.put, List.setIfInBounds_toArray, List.set_cons_zero, List.set_cons_succ]); (refine take_t (i := 2) (d := 29) (oi := _) (v := ?_) rfl rfl (by kernel_rfl) (by kernel_rfl) (by kernel_rfl) (by rfl) ?_ (by assumption) ?_; rotate_left; (focus (intro w0 hSw; (try dsimp only at hSw); go_simp; (try with_reducible rfl); done)); try simp only [Act.put, List.setIfInBounds_toArray, List.set_cons_zero, List.set_cons_succ]); (refine take_t (i := 3) (d := 30) (oi := _) (v := ?_) rfl rfl (by kernel_rfl) (by kernel_rfl) (by kernel_rfl) (by rfl) ?_ (by assumption) ?_; rotate_left; (focus (intro w0 hSw; (try dsimp only at hSw); go_simp; (try with_reducible rfl); done)); try simp only [Act.put, List.setIfInBounds_toArray, List.set_cons_zero, List.set_cons_succ]); (refine take_t (i := 4) (d := 31) (oi := _) (v := ?_) rfl rfl (by kernel_rfl) (by kernel_rfl) (by kernel_rfl) (by rfl) ?_ (by assumption) ?_; rotate_left; (focus (intro w0 hSw; (try dsimp only at hSw); go_simp; (try with_reducible rfl); done)); try simp only [Act.put, List.setIfInBounds_toArray, List.set_cons_zero, List.set_cons_succ]); (refine take_t (i := 5) (d := 32) (oi := _) (v := ?_) rfl rfl (by kernel_rfl) (by kernel_rfl) (by kernel_rfl) (by rfl) ?_ (by assumption) ?_; rotate_left; (focus (intro w0 hSw; (try dsimp only at hSw); go_simp; (try with_reducible rfl); done)); try simp only [Act.put, List.setIfInBounds_toArray, List.set_cons_zero, List.set_cons_succ]); (refine take_t (i := 6) (d := 33) (oi := _) (v := ?_) rfl rfl (by kernel_rfl) (by kernel_rfl) (by kernel_rfl) (by rfl) ?_ (by assumption) ?_; rotate_left; (focus (intro w0 hSw; (try dsimp only at hSw); go_simp; (try with_reducible rfl); done)); try simp only [Act.put, List.setIfInBounds_toArray, List.set_cons_zero, List.set_cons_succ]); (refine take_t (i := 8) (d := 35) (oi := _) (v := ?_) rfl rfl (by kernel_rfl) (by kernel_rfl) (by kernel_rfl) (by rfl) ?_ (by assumption) ?_; rotate_left; (focus (intro w0 hSw; (try dsimp only at hSw); go_simp; (try with_reducible rfl); done)); try simp only [Act.put, List.setIfInBounds_toArray, List.set_cons_zero, List.set_cons_succ]); (refine take_t (i := 9) (d := 36) (oi := _) (v := ?_) rfl rfl (by kernel_rfl) (by kernel_rfl) (by kernel_rfl) (by rfl) ?_ (by assumption) ?_; rotate_left; (focus (intro w0 hSw; (try dsimp only at hSw); go_simp; (try with_reducible rfl); done)); try simp only [Act.put, List.setIfInBounds_toArray, List.set_cons_zero, List.set_cons_succ]); (refine take_t (i := 10) (d := 37) (oi := _) (v := ?_) rfl rfl (by kernel_rfl) (by kernel_rfl) (by kernel_rfl) (by rfl) ?_ (by assumption) ?_; rotate_left; (focus (intro w0 hSw; (try dsimp only at hSw); go_simp; (try with_reducible rfl); done)); try simp only [Act.put, List.setIfInBounds_toArray, List.set_cons_zero, List.set_cons_succ]); (refine take_t (i := 11) (d := 38) (oi := _) (v := ?_) rfl rfl (by kernel_rfl) (by kernel_rfl) (by kernel_rfl) (by rfl) ?_ (by assumption) ?_; rotate_left; (focus (intro w0 hSw; (try dsimp only at hSw); go_simp; (try with_reducible rfl); done)); try simp only [Act.put, List.setIfInBounds_toArray, List.set_cons_zero, List.set_cons_succ]); (refine take_t (i := 12) (d := 39) (oi := _) (v := ?_) rfl rfl (by kernel_rfl) (by kernel_rfl) (by kernel_rfl) (by rfl) ?_ (by assumption) ?_; rotate_left; (focus (intro w0 hSw; (try dsimp only at hSw); go_simp; (try with_reducible rfl); done)); try simp only [Act.put, List.setIfInBounds_toArray, List.set_cons_zero, List.set_cons_succ]); (refine take_t (i := 13) (d := 40) (oi := _) (v := ?_) rfl rfl (by kernel_rfl) (by kernel_rfl) (by kernel_rfl) (by rfl) ?_ (by assumption) ?_; rotate_left; (focus (intro w0 hSw; (try dsimp only at hSw); go_simp; (try with_reducible rfl); done)); try simp only [Act.put, List.setIfInBounds_toArray, List.set_cons_zero, List.set_cons_succ]); (refine take_t (i := 14) (d := 41) (oi := _) (v := ?_) rfl rfl (by kernel_rfl) (by kernel_rfl) (by kernel_rfl) (by rfl) ?_ (by assumption) ?_; rotate_left; (focus (intro w0 hSw; (try dsimp only at hSw); go_simp; (try with_reducible rfl); done)); try simp only [Act.put, List.setIfInBounds_toArray, List.set_cons_zero, List.set_cons_succ]); (refine take_t (i := 15) (d := 42) (oi := _) (v := ?_) rfl rfl (by kernel_rfl) (by kernel_rfl) (by kernel_rfl) (by rfl) ?_ (by assumption) ?_; rotate_left; (focus (intro w0 hSw; (try dsimp only at hSw); go_simp; (try with_reducible rfl); done)); try simp only [Act.put, List.setIfInBounds_toArray, List.set_cons_zero, List.set_cons_succ]); (refine take_t (i := 16) (d := 43) (oi := _) (v := ?_) rfl rfl (by kernel_rfl) (by kernel_rfl) (by kernel_rfl) (by rfl) ?_ (by assumption) ?_; rotate_left; (focus (intro w0 hSw; (try dsimp only at hSw); go_simp; (try with_reducible rfl); done)); try simp only [Act.put, List.setIfInBounds_toArray, List.set_cons_zero, List.set_cons_succ]); (refine take_t (i := 17) (d := 44) (oi := _) (v := ?_) rfl rfl (by kernel_rfl) (by kernel_rfl) (by kernel_rfl) (by rfl) ?_ (by assumption) ?_; rotate_left; (focus (intro w0 hSw; (try dsimp only at hSw); go_simp; (try with_reducible rfl); done)); try simp only [Act.put, List.setIfInBounds_toArray, List.set_cons_zero, List.set_cons_succ]); (refine take_t (i := 18) (d := 45) (oi := _) (v := ?_) rfl rfl (by kernel_rfl) (by kernel_rfl) (by kernel_rfl) (by rfl) ?_ (by assumption) ?_; rotate_left; (focus (intro w0 hSw; (try dsimp only at hSw); go_simp; (try with_reducible rfl); done)); try simp only [Act.put, List.setIfInBounds_toArray, List.set_cons_zero, List.set_cons_succ]); (refine take_t (i := 19) (d := 46) (oi := _) (v := ?_) rfl rfl (by kernel_rfl) (by kernel_rfl) (by kernel_rfl) (by rfl) ?_ (by assumption) ?_; rotate_left; (focus (intro w0 hSw; (try dsimp only at hSw); go_simp; (try with_reducible rfl); done)); try simp only [Act.put, List.setIfInBounds_toArray, List.set_cons_zero, List.set_cons_succ]); (refine take_t (i := 20) (d := 47) (oi := _) (v := ?_) rfl rfl (by kernel_rfl) (by kernel_rfl) (by kernel_rfl) (by rfl) ?_ (by assumption) ?_; rotate_left; (focus (intro w0 hSw; (try dsimp only at hSw); go_simp; (try with_reducible rfl); done)); try simp only [Act.put, List.setIfInBounds_toArray, List.set_cons_zero, List.set_cons_succ]); (refine wpAnyH_ready (rs := [7]) (by kernel_rfl) (by simp) ?_; refine AllReadyH.cons (o := _) rfl (fun K' hK => ?_) AllReadyH.nil; go_simp; (go_at_call 60; (with_reducible refine (key_any _ _).mono ?_); rintro e' w5 ⟨ks, rfl, b5⟩; replace hp := Lib.hid (hp.out.below b5); clear b5); (try dsimp only); refine hK.out _ _ ?_ (fun hHeld2 => ?_); (focus ((try dsimp only); exact hrx.out _ hp.out.bel; done)); clear hK K'; clear hHeld; have hHeld := hHeld2; clear hHeld2; try simp only [Act.put, List.setIfInBounds_toArray, List.set_cons_zero, List.set_cons_succ]); (refine wpAnyH_ready (rs := [21]) (by kernel_rfl) (by simp) ?_; refine AllReadyH.cons (o := _) rfl (fun K' hK => ?_) AllReadyH.nil; go_simp; (go_at_call 59; (with_reducible refine (hwith.out _ _ _ (hp.out.sl (i := 0) rfl hAS.out)).mono ?_); rintro e' w6 ⟨v', rfl, A', hA', hl', ⟨ad6, cp6, rfl⟩, h6⟩; replace hp := Lib.hid (hp.out.take h6); clear h6; replace hA' := Lib.hid hA'; replace hl' := Lib.hid hl'); (try dsimp only); refine hK.out _ _ ?_ (fun hHeld2 => ?_); (focus ((try dsimp only); exact hrx.out _ hp.out.bel; done)); clear hK K'; clear hHeld; have hHeld := hHeld2; clear hHeld2; try simp only [Act.put, List.setIfInBounds_toArray, List.set_cons_zero, List.set_cons_succ]); (refine take_t (i := 22) (d := 7) (oi := _) (v := ?_) rfl rfl (by kernel_rfl) (by kernel_rfl) (by kernel_rfl) (by rfl) ?_ (by assumption) ?_; rotate_left; (focus (intro w0 hSw; (try dsimp only at hSw); go_simp; (try with_reducible rfl); done)); try simp only [Act.put, List.setIfInBounds_toArray, List.set_cons_zero, List.set_cons_succ]); refine wpAnyH_done (by kernel_rfl) ?_ _; refine NoPanic.normal ?_
      go_wp2
      go_roundw
      case rel => exact ⟨i + 1, A', ad6, cp6, by go_num, by omega, rfl, by have := hl'.out; omega, hA'.out, hp.out.drop 1⟩
      case measure => simp [intOf]; omega
    · obtain rfl : i = K := by omega
      obtain ⟨w6, rfl⟩ : ∃ w6, w6 = wr := ⟨_, rfl⟩
      have hgl : decide ((i : Int) < (len0 : Int)) = false ∨ ((i : Int) < (len0 : Int) ∧ decide ((i : Int) < 30) = false) := by
        by_cases h5 : (i : Int) < (len0 : Int)
        · right; exact ⟨h5, by simp; omega⟩
        · left; simpa using h5
      have hcpA := rowCap' (hp.row (i := 0) rfl)
      have hslA := hp.sl (i := 0) rfl (by omega)
      have hbel0 := hp.bel
      have hA30 : A.length ≤ 30 := by omega
      have hnew := Lib.hid (new_hp (Hp.none_ w6 []))
      obtain ⟨nA, hnA⟩ : ∃ nA, nA = A.length := ⟨_, rfl⟩
      rw [← hnA] at hcpA hslA ⊢
      replace hcpA := Lib.hid hcpA; replace hslA := Lib.hid hslA; replace hbel0 := Lib.hid hbel0; replace hA30 := Lib.hid hA30; replace hA := Lib.hid hA; replace hnA := Lib.hid hnA
      clear hp hKe hKl hK30 hX hR hAi
      rcases hgl with g1 | ⟨g1, g2⟩
      case inl =>
        have g1' : decide (i < len0) = false := by simpa using g1
        go_upto_region 7 with (go_at_call 47; (with_reducible refine (hnew.out).mono ?_); rintro e w7 ⟨d, rfl, h7⟩; have hp := Lib.hid h7; clear h7)
        clear hnew
        go_wp2
        go_loopw [10, 11] (fun s10 s11 wz => ∃ (j : Nat) (L : List Ch) (T : List En) (ad : Option Addr) (cp : Nat) (rest : List Rs), s11 = .int .i64 (j : Int) ∧ j ≤ J ∧ s10 = .slice ad T.length cp ∧ T.length ≤ cp ∧ L.length ≤ j ∧ T.length ≤ 30 + j ∧ Srt L ∧ SrtE T ∧ T = over L A ∧ WantAt w6 T (.slice ad T.length cp) rest ∧ Hp w6 [] (del d L :: rest) wz) (fun _ s11 _ => J - (intOf s11).toNat)
        case atStart => exact ⟨0, [], A, ad, cp, [], rfl, by omega, by rw [hnA.out], by rw [← hnA.out]; exact hcpA.out, by simp, by have := hA30.out; omega, by simp [Srt], hA.out, rfl, Or.inl ⟨rfl, by rw [← hnA.out]; exact hslA.out⟩, hp.out⟩
        case round =>
          clear hp
          obtain ⟨j, L, T, ad2, cp2, rest, rfl, hj, rfl, hTc, hLj, hTj, hs, hT, hTL, hwa, hp⟩ := hrel
          by_cases hlj : j < J
          · have g3 : (j : Int) < (len1 : Int) := by omega
            have g4 : (j : Int) < 30 := by omega
            have g5 : (0 : Int) ≤ (j : Int) := by omega
            obtain ⟨x, hx⟩ : ∃ x, Y[j]? = some x := ⟨_, List.getElem?_eq_getElem (by have := hY.out; omega)⟩
            obtain ⟨hwf, b, o, rfl, hbw, c0, c1, c2⟩ := hQ.out j x hx
            have hb0 := belowCont hbel0.out hp.bel
            have d0 := (hb0.cell (p := ⟨b, o + j * 3, none⟩) hbw).trans c0
            have d1 := (hb0.cell (p := ⟨b, o + j * 3 + 1, none⟩) hbw).trans c1
            have d2 := (hb0.cell (p := ⟨b, o + j * 3 + 2, none⟩) hbw).trans c2
            have hfew := fun W => few_any x hwf.1 hwf.2 W
            obtain ⟨xk, xv, xg⟩ := x
            obtain ⟨c, hc⟩ : ∃ c, c = fewC ⟨xk, xv, xg⟩ := ⟨_, rfl⟩
            rw [← hc] at hfew
            unfold Ch.a at hfew
            simp only at hfew d0 d1 d2
            clear hc c0 c1 c2 hx hwf hbw hb0
            obtain ⟨ck, cv, cg⟩ := c
            simp only at hfew
            have hL2 := Lib.hid (show L.length ≤ 90000 by omega)
            have hT2 := Lib.hid (show T.length ≤ 1000 by omega)
            replace hfew := Lib.hid hfew; replace hs := Lib.hid hs; replace hp := Lib.hid hp; replace hT := Lib.hid hT; replace hTL := Lib.hid hTL; replace hwa := Lib.hid hwa; replace hTc := Lib.hid hTc; replace hTj := Lib.hid hTj
            cases hk : eqB ck ⟨#[]⟩ with
            | true =>
              obtain rfl := eqB_iff.1 hk
              have hput : ∀ W, Calls Try.prog 49 #[.pointer (some ⟨d, 0, none⟩), .agg #[.string ⟨#[]⟩, .string cv, .bool cg]] W fun e w' => e = .returned (.tuple #[]) ∧ Below W.heap.size W w' := fun W => put_empty d ⟨⟨#[]⟩, cv, cg⟩ W hk
              replace hput := Lib.hid hput
              clear hk
              go_wp2_with (first
                | (go_at_call 48; (with_reducible refine (hfew.out _).mono ?_); rintro e w1 ⟨rfl, b1⟩; replace hp := Lib.hid ((hp.out.below b1).alloc #[.string ⟨#[]⟩, .string cv, .bool cg] 93); clear b1)
                | (go_at_call 49; (with_reducible refine (hput.out _).mono ?_); rintro e w2 ⟨rfl, b2⟩; replace hp := Lib.hid (hp.out.below b2); clear b2; have x0 := hp.out.cell (i := 0) rfl 0; have x1 := hp.out.cell (i := 0) rfl 1; have x2 := hp.out.cell (i := 0) rfl 2; simp at x0 x1 x2))
              go_roundw
              case rel => exact ⟨j + 1, L, T, ad2, cp2, rest, by go_num, by omega, rfl, hTc.out, by omega, by have := hTj.out; omega, hs.out, hT.out, hTL.out, hwa.out, hp.out.drop 0⟩
              case measure => simp [intOf]; omega
            | false =>
              obtain ⟨q1, q2, q3⟩ := empty_facts hk
              have hs' := put_srt ⟨ck, cv, cg⟩ L hs.out
              have hov := over_put ⟨ck, cv, cg⟩ L A hs.out hA.out hk
              have hpl := put_len ⟨ck, cv, cg⟩ L
              have hT' := withE_srt ck cv cg T hT.out
              have hTl' := withE_len ck cv cg T hT.out
              rw [← hTL.out] at hov
              simp only at hov
              obtain ⟨L', hL'⟩ : ∃ L', L' = putL ⟨ck, cv, cg⟩ L := ⟨_, rfl⟩
              obtain ⟨T', hT''⟩ : ∃ T', T' = withE ck cv T cg := ⟨_, rfl⟩
              rw [← hL', ← hT''] at hov
              rw [← hL'] at hs' hpl
              rw [← hT''] at hT' hTl'
              have hput : ∀ W rs (h : Hp w6 [] rs W) (hi : rs[1]? = some (del d L)), Calls Try.prog 49 #[.pointer (some ⟨d, 0, none⟩), .agg #[.string ck, .string cv, .bool cg]] W fun e w' => e = .returned (.tuple #[]) ∧ Hp w6 [] (rs.set 1 (del d L')) w' := fun W rs h hi => by
                rw [hL']; exact put_hp h hi ⟨ck, cv, cg⟩ hs.out hL2.out hk
              have hwith : ∀ W (v : Value), Sl W v T.length (enC T) → Calls Try.prog 59 #[v, .string ck, .string cv, .bool cg] W fun e w' => ∃ v', e = .returned v' ∧ (∃ ad cp, v' = .slice ad T'.length cp) ∧ Hp W [] [.row 43 2 v' T'.length (enC T')] w' := fun W v h => by
                rw [hT'']; exact withEn_any ck cv cg v T W h (by have := hT2.out; omega) (withE_len _ _ _ _ hT.out)
              replace hput := Lib.hid hput; replace hwith := Lib.hid hwith
              replace hs' := Lib.hid hs'; replace hT' := Lib.hid hT'; replace hTl' := Lib.hid hTl'; replace hpl := Lib.hid hpl; replace hov := Lib.hid hov
              clear hk hL' hT''
              go_wp2_with (first
                | (go_at_call 48; (with_reducible refine (hfew.out _).mono ?_); rintro e w1 ⟨rfl, b1⟩; replace hp := Lib.hid ((hp.out.below b1).alloc #[.string ck, .string cv, .bool cg] 93); clear b1)
                | (go_at_call 49; go_loud ((with_reducible refine (hput.out _ _ hp.out rfl).mono ?_); rintro e w2 ⟨rfl, h2⟩; replace hp := Lib.hid (show Hp w6 [] (.box _ #[.string ck, .string cv, .bool cg] 93 :: del d L' :: rest) _ from h2); clear h2; have hsl := Lib.hid (WantAt.sl (ahead := [.box _ #[.string ck, .string cv, .bool cg] 93, del d L']) hwa.out hp.out hT2.out); have x0 := hp.out.cell (i := 0) rfl 0; have x1 := hp.out.cell (i := 0) rfl 1; have x2 := hp.out.cell (i := 0) rfl 2; simp at x0 x1 x2))
                | (go_at_call 59; (with_reducible refine (hwith.out _ _ hsl.out).mono ?_); rintro e w3 ⟨v3, rfl, ⟨ad3, cp3, rfl⟩, h3⟩; replace hp := Lib.hid (hp.out.take h3); clear h3))
              go_roundw
              case rel =>
                have hc3 := rowCap' (hp.out.row (i := 0) rfl)
                exact ⟨j + 1, L', T', ad3, cp3, _, by go_num, by omega, rfl, hc3, by have := hpl.out; omega, by have := hTl'.out; have := hTj.out; omega, hs'.out, hT'.out, hov.out.symm, Or.inr rfl, hp_head2 (hp.out.drop 1)⟩
              case measure => simp [intOf]; omega
          · obtain rfl : j = J := by omega
            have hgm : decide ((j : Int) < (len1 : Int)) = false ∨ ((j : Int) < (len1 : Int) ∧ decide ((j : Int) < 30) = false) := by
              by_cases h5 : (j : Int) < (len1 : Int)
              · right; exact ⟨h5, by simp; omega⟩
              · left; simpa using h5
            obtain ⟨w8, rfl⟩ : ∃ w8, w8 = wr := ⟨_, rfl⟩
            have hbel1 := belowCont hbel0.out hp.bel
            have hslW := WantAt.sl (ahead := [del d L]) hwa hp (by omega)
            have hslA1 := hslA.out.below hp.bel
            obtain ⟨vd, hd1, hd2⟩ := hp_bx hp (i := 0) rfl
            obtain ⟨m', hm'⟩ : ∃ m', m' = min T.length N := ⟨_, rfl⟩
            obtain ⟨G, hG⟩ : ∃ G, G = T.take N := ⟨_, rfl⟩
            have hGl : G.length = m' := by rw [hG, List.length_take, hm']; omega
            have hGm : T.take m' = G := by
              rw [hG, hm']
              by_cases h5 : N ≤ T.length
              · rw [Nat.min_eq_right h5]
              · rw [Nat.min_eq_left (by omega), List.take_of_length_le (Nat.le_refl _), List.take_of_length_le (by omega)]
            have hL5 : L.length ≤ 100000 := by omega
            have hall : ∀ W, Below w8.heap.size w8 W → Calls Try.prog 55 #[.pointer (some ⟨d, 0, none⟩)] W fun e w' => ∃ v', e = .returned v' ∧ (∃ ad cp, v' = .slice ad L.length cp) ∧ Hp W [] [.row 93 3 v' L.length (chC L)] w' := fun W hb =>
              all_any d vd L W ((hb.block _ (block_lt hd1)).trans hd1) (rowBelow hd2 hb) hs hL5
            have hovr : ∀ W (u : Value), Below w8.heap.size w8 W → Sl W u L.length (chC L) → Calls Try.prog 61 #[.slice ad nA cp, u, .int .i64 (N : Int)] W fun e w' => ∃ v', e = .returned v' ∧ (∃ ad cp, v' = .slice ad m' cp) ∧ Hp W [] [.row 43 2 v' m' (enC G)] w' := fun W u hb h => by
              have h2 := hslA1.below hb
              rw [hnA.out] at h2 ⊢
              have := over_any (.slice ad A.length cp) u A L N W h2 h (by omega) (by have := hA30.out; omega) (by omega)
              rw [← hTL, ← hG] at this
              unfold EnOf at this
              rw [hGl] at this
              exact this
            have haw := fun W => awake_any W
            have hq0 := Lib.hid (Hp.none_ w8 [])
            have hLS := Lib.hid (show L.length ≤ 140737488355328 by omega)
            have hmS := Lib.hid (show m' ≤ 140737488355328 by omega)
            have hm1 : min (T.length : Int) (N : Int) = (m' : Int) := by omega
            have hm2 : (if (T.length : Int) < (N : Int) then (T.length : Int) else (N : Int)) = (m' : Int) := by split <;> omega
            have hm3 : m' ≤ T.length := by omega
            have hm4 : (m' : Int) ≤ (cp2 : Int) := by omega
            have hm5 : m' ≤ cp2 := by omega
            have hwz : ∀ (a : Option Addr) (c : Nat), (T.length = 0 ∨ a = ad2) → c = cp2 → Sl w8 (.slice a m' c) m' (enC G) := fun a c ha hc => by
              rcases ha with ha | rfl
              · exact ⟨a, c, rfl, by omega, Or.inl (by omega)⟩
              · rw [hc, ← hGm]; exact sl_take hslW rfl hm3
            have had : T.length = 0 ∨ ∃ b o, ad2 = some ⟨b, o, none⟩ := by
              obtain ⟨a9, c9, hv9, _, h9⟩ := hslW
              injection hv9 with h91 h92 h93
              subst h91
              rcases h9 with h9 | ⟨b, o, h9, _⟩
              · exact Or.inl h9
              · exact Or.inr ⟨b, o, h9⟩
            obtain ⟨nT, hnT⟩ : ∃ nT, nT = T.length := ⟨_, rfl⟩
            rw [← hnT] at hm1 hm2 hm3 hwz had ⊢
            replace hbel1 := Lib.hid hbel1; replace hall := Lib.hid hall; replace hovr := Lib.hid hovr; replace haw := Lib.hid haw; replace hwz := Lib.hid hwz; replace hGl := Lib.hid hGl
            have hNx := hNN.out
            clear hslW hslA1 hp hd1 hd2 hm' hG hGm hnT hs hT hTL hwa hTj hTc hLj hL5 hN64 hJ30 hJl hJe hQ hY hslA hbel0 hA hA30 hcpA hnA
            rcases hgm with k1 | ⟨k1, k2⟩
            case inl =>
              have k1' : decide (j < len1) = false := by simpa using k1
              go_upto_region 15 with fail
              go_cut [10] from 82 to 87 (fun s10 wx => (∃ a c, s10 = .slice a m' c ∧ Sl w8 (.slice a m' c) m' (enC G)) ∧ w8 = wx)
              case first =>
                rcases had with h0 | ⟨b, o, rfl⟩
                · obtain rfl : m' = 0 := by omega
                  cases ad2 with
                  | none =>
                    go_wp2
                    go_meet
                    exact ⟨⟨_, _, rfl, hwz.out _ _ (Or.inl h0) rfl⟩, rfl⟩
                  | some a =>
                    obtain ⟨ab, ao, asp⟩ := a
                    go_wp2
                    go_meet
                    exact ⟨⟨_, _, rfl, hwz.out _ _ (Or.inl h0) rfl⟩, rfl⟩
                · go_wp2
                  go_meet
                  exact ⟨⟨_, _, rfl, hwz.out _ _ (Or.inr rfl) rfl⟩, rfl⟩
              obtain ⟨⟨wa, wc', rfl, hws⟩, rfl⟩ := hcut
              replace hws := Lib.hid hws
              clear hwz had hm1 hm2 hm3 hm4 hm5
              go_upto_region 17 with (first
                | (go_at_call 55; (with_reducible refine (hall.out _ hq0.out.bel).mono ?_); rintro e w9 ⟨u9, rfl, ⟨ad9, cp9, rfl⟩, h9⟩; replace hq0 := Lib.hid (hq0.out.take h9); clear h9)
                | (go_at_call 61; (with_reducible refine (hovr.out _ _ hq0.out.bel (hq0.out.sl (i := 0) rfl hLS.out)).mono ?_); rintro e w10 ⟨v9, rfl, ⟨ad10, cp10, rfl⟩, h9⟩; replace hq0 := Lib.hid (hq0.out.take h9); clear h9))
              go_wp2_with (go_at_call 53; (with_reducible refine (haw.out _).mono ?_); rintro e w11 ⟨rfl, b11⟩; replace hq0 := Lib.hid ((hq0.out.below b11).drop 1); clear b11)
              clear hall hovr haw
              go_loopw [15] (fun s15 wy => ∃ ii : Nat, s15 = .int .i64 (ii : Int) ∧ ii ≤ m' ∧ Hp w8 [] [.row 43 2 (.slice ad10 m' cp10) m' (enC G)] wy) (fun s15 _ => m' - (intOf s15).toNat)
              case atStart => exact ⟨0, rfl, by omega, hq0.out⟩
              case round =>
                clear hq0
                obtain ⟨ii, rfl, hii, hq⟩ := hrel
                by_cases hil : ii < m'
                · obtain ⟨x, hx⟩ : ∃ x, G[ii]? = some x := ⟨_, List.getElem?_eq_getElem (by have := hGl.out; omega)⟩
                  obtain ⟨a9, c9, hv9, _, h9⟩ := hq.sl (i := 0) rfl hmS.out
                  injection hv9 with e91 e92 e93
                  subst e91 e93
                  obtain ⟨b', o', rfl, hr'⟩ := h9.resolve_left (by omega)
                  obtain ⟨a8, c8, hv8, _, h8⟩ := hws.out.below hq.bel
                  injection hv8 with e81 e82 e83
                  subst e81 e83
                  obtain ⟨b'', o'', rfl, hr''⟩ := h8.resolve_left (by omega)
                  have d0 : wr.cell? ⟨b', o' + ii * 2, none⟩ = some (.string x.k) := hr'.elem0 En.c_len hx rfl
                  have d1 : wr.cell? ⟨b', o' + ii * 2 + 1, none⟩ = some (.string x.v) := hr'.elem En.c_len hx rfl
                  have f0 : wr.cell? ⟨b'', o'' + ii * 2, none⟩ = some (.string x.k) := hr''.elem0 En.c_len hx rfl
                  have f1 : wr.cell? ⟨b'', o'' + ii * 2 + 1, none⟩ = some (.string x.v) := hr''.elem En.c_len hx rfl
                  have n1 : (0 : Int) ≤ (ii : Int) := by omega
                  have n2 : (ii : Int) < (m' : Int) := by omega
                  clear hr' hr'' hx h9 h8
                  replace hq := Lib.hid hq
                  go_upto_region 22 with fail
                  go_quiet (fail)
                  go_wp2
                  go_roundw
                  case rel => exact ⟨ii + 1, by go_num, by omega, hq.out.drewN _⟩
                  case measure => simp [intOf]; omega
                · obtain rfl : m' = ii := by omega
                  replace hq := Lib.hid hq
                  go_wp2
                  go_ret
                  exact ⟨rfl, belowCont hbel1.out hq.out.bel⟩
            case inr =>
              go_upto_region 15 with fail
              go_cut [10] from 82 to 87 (fun s10 wx => (∃ a c, s10 = .slice a m' c ∧ Sl w8 (.slice a m' c) m' (enC G)) ∧ w8 = wx)
              case first =>
                rcases had with h0 | ⟨b, o, rfl⟩
                · obtain rfl : m' = 0 := by omega
                  cases ad2 with
                  | none =>
                    go_wp2
                    go_meet
                    exact ⟨⟨_, _, rfl, hwz.out _ _ (Or.inl h0) rfl⟩, rfl⟩
                  | some a =>
                    obtain ⟨ab, ao, asp⟩ := a
                    go_wp2
                    go_meet
                    exact ⟨⟨_, _, rfl, hwz.out _ _ (Or.inl h0) rfl⟩, rfl⟩
                · go_wp2
                  go_meet
                  exact ⟨⟨_, _, rfl, hwz.out _ _ (Or.inr rfl) rfl⟩, rfl⟩
              obtain ⟨⟨wa, wc', rfl, hws⟩, rfl⟩ := hcut
              replace hws := Lib.hid hws
              clear hwz had hm1 hm2 hm3 hm4 hm5
              go_upto_region 17 with (first
                | (go_at_call 55; (with_reducible refine (hall.out _ hq0.out.bel).mono ?_); rintro e w9 ⟨u9, rfl, ⟨ad9, cp9, rfl⟩, h9⟩; replace hq0 := Lib.hid (hq0.out.take h9); clear h9)
                | (go_at_call 61; (with_reducible refine (hovr.out _ _ hq0.out.bel (hq0.out.sl (i := 0) rfl hLS.out)).mono ?_); rintro e w10 ⟨v9, rfl, ⟨ad10, cp10, rfl⟩, h9⟩; replace hq0 := Lib.hid (hq0.out.take h9); clear h9))
              go_wp2_with (go_at_call 53; (with_reducible refine (haw.out _).mono ?_); rintro e w11 ⟨rfl, b11⟩; replace hq0 := Lib.hid ((hq0.out.below b11).drop 1); clear b11)
              clear hall hovr haw
              go_loopw [15] (fun s15 wy => ∃ ii : Nat, s15 = .int .i64 (ii : Int) ∧ ii ≤ m' ∧ Hp w8 [] [.row 43 2 (.slice ad10 m' cp10) m' (enC G)] wy) (fun s15 _ => m' - (intOf s15).toNat)
              case atStart => exact ⟨0, rfl, by omega, hq0.out⟩
              case round =>
                clear hq0
                obtain ⟨ii, rfl, hii, hq⟩ := hrel
                by_cases hil : ii < m'
                · obtain ⟨x, hx⟩ : ∃ x, G[ii]? = some x := ⟨_, List.getElem?_eq_getElem (by have := hGl.out; omega)⟩
                  obtain ⟨a9, c9, hv9, _, h9⟩ := hq.sl (i := 0) rfl hmS.out
                  injection hv9 with e91 e92 e93
                  subst e91 e93
                  obtain ⟨b', o', rfl, hr'⟩ := h9.resolve_left (by omega)
                  obtain ⟨a8, c8, hv8, _, h8⟩ := hws.out.below hq.bel
                  injection hv8 with e81 e82 e83
                  subst e81 e83
                  obtain ⟨b'', o'', rfl, hr''⟩ := h8.resolve_left (by omega)
                  have d0 : wr.cell? ⟨b', o' + ii * 2, none⟩ = some (.string x.k) := hr'.elem0 En.c_len hx rfl
                  have d1 : wr.cell? ⟨b', o' + ii * 2 + 1, none⟩ = some (.string x.v) := hr'.elem En.c_len hx rfl
                  have f0 : wr.cell? ⟨b'', o'' + ii * 2, none⟩ = some (.string x.k) := hr''.elem0 En.c_len hx rfl
                  have f1 : wr.cell? ⟨b'', o'' + ii * 2 + 1, none⟩ = some (.string x.v) := hr''.elem En.c_len hx rfl
                  have n1 : (0 : Int) ≤ (ii : Int) := by omega
                  have n2 : (ii : Int) < (m' : Int) := by omega
                  clear hr' hr'' hx h9 h8
                  replace hq := Lib.hid hq
                  go_upto_region 22 with fail
                  go_quiet (fail)
                  go_wp2
                  go_roundw
                  case rel => exact ⟨ii + 1, by go_num, by omega, hq.out.drewN _⟩
                  case measure => simp [intOf]; omega
                · obtain rfl : m' = ii := by omega
                  replace hq := Lib.hid hq
                  go_wp2
                  go_ret
                  exact ⟨rfl, belowCont hbel1.out hq.out.bel⟩
      case inr =>
        go_upto_region 7 with (go_at_call 47; (with_reducible refine (hnew.out).mono ?_); rintro e w7 ⟨d, rfl, h7⟩; have hp := Lib.hid h7; clear h7)
        clear hnew
        go_wp2
        go_loopw [10, 11] (fun s10 s11 wz => ∃ (j : Nat) (L : List Ch) (T : List En) (ad : Option Addr) (cp : Nat) (rest : List Rs), s11 = .int .i64 (j : Int) ∧ j ≤ J ∧ s10 = .slice ad T.length cp ∧ T.length ≤ cp ∧ L.length ≤ j ∧ T.length ≤ 30 + j ∧ Srt L ∧ SrtE T ∧ T = over L A ∧ WantAt w6 T (.slice ad T.length cp) rest ∧ Hp w6 [] (del d L :: rest) wz) (fun _ s11 _ => J - (intOf s11).toNat)
        case atStart => exact ⟨0, [], A, ad, cp, [], rfl, by omega, by rw [hnA.out], by rw [← hnA.out]; exact hcpA.out, by simp, by have := hA30.out; omega, by simp [Srt], hA.out, rfl, Or.inl ⟨rfl, by rw [← hnA.out]; exact hslA.out⟩, hp.out⟩
        case round =>
          clear hp
          obtain ⟨j, L, T, ad2, cp2, rest, rfl, hj, rfl, hTc, hLj, hTj, hs, hT, hTL, hwa, hp⟩ := hrel
          by_cases hlj : j < J
          · have g3 : (j : Int) < (len1 : Int) := by omega
            have g4 : (j : Int) < 30 := by omega
            have g5 : (0 : Int) ≤ (j : Int) := by omega
            obtain ⟨x, hx⟩ : ∃ x, Y[j]? = some x := ⟨_, List.getElem?_eq_getElem (by have := hY.out; omega)⟩
            obtain ⟨hwf, b, o, rfl, hbw, c0, c1, c2⟩ := hQ.out j x hx
            have hb0 := belowCont hbel0.out hp.bel
            have d0 := (hb0.cell (p := ⟨b, o + j * 3, none⟩) hbw).trans c0
            have d1 := (hb0.cell (p := ⟨b, o + j * 3 + 1, none⟩) hbw).trans c1
            have d2 := (hb0.cell (p := ⟨b, o + j * 3 + 2, none⟩) hbw).trans c2
            have hfew := fun W => few_any x hwf.1 hwf.2 W
            obtain ⟨xk, xv, xg⟩ := x
            obtain ⟨c, hc⟩ : ∃ c, c = fewC ⟨xk, xv, xg⟩ := ⟨_, rfl⟩
            rw [← hc] at hfew
            unfold Ch.a at hfew
            simp only at hfew d0 d1 d2
            clear hc c0 c1 c2 hx hwf hbw hb0
            obtain ⟨ck, cv, cg⟩ := c
            simp only at hfew
            have hL2 := Lib.hid (show L.length ≤ 90000 by omega)
            have hT2 := Lib.hid (show T.length ≤ 1000 by omega)
            replace hfew := Lib.hid hfew; replace hs := Lib.hid hs; replace hp := Lib.hid hp; replace hT := Lib.hid hT; replace hTL := Lib.hid hTL; replace hwa := Lib.hid hwa; replace hTc := Lib.hid hTc; replace hTj := Lib.hid hTj
            cases hk : eqB ck ⟨#[]⟩ with
            | true =>
              obtain rfl := eqB_iff.1 hk
              have hput : ∀ W, Calls Try.prog 49 #[.pointer (some ⟨d, 0, none⟩), .agg #[.string ⟨#[]⟩, .string cv, .bool cg]] W fun e w' => e = .returned (.tuple #[]) ∧ Below W.heap.size W w' := fun W => put_empty d ⟨⟨#[]⟩, cv, cg⟩ W hk
              replace hput := Lib.hid hput
              clear hk
              go_wp2_with (first
                | (go_at_call 48; (with_reducible refine (hfew.out _).mono ?_); rintro e w1 ⟨rfl, b1⟩; replace hp := Lib.hid ((hp.out.below b1).alloc #[.string ⟨#[]⟩, .string cv, .bool cg] 93); clear b1)
                | (go_at_call 49; (with_reducible refine (hput.out _).mono ?_); rintro e w2 ⟨rfl, b2⟩; replace hp := Lib.hid (hp.out.below b2); clear b2; have x0 := hp.out.cell (i := 0) rfl 0; have x1 := hp.out.cell (i := 0) rfl 1; have x2 := hp.out.cell (i := 0) rfl 2; simp at x0 x1 x2))
              go_roundw
              case rel => exact ⟨j + 1, L, T, ad2, cp2, rest, by go_num, by omega, rfl, hTc.out, by omega, by have := hTj.out; omega, hs.out, hT.out, hTL.out, hwa.out, hp.out.drop 0⟩
              case measure => simp [intOf]; omega
            | false =>
              obtain ⟨q1, q2, q3⟩ := empty_facts hk
              have hs' := put_srt ⟨ck, cv, cg⟩ L hs.out
              have hov := over_put ⟨ck, cv, cg⟩ L A hs.out hA.out hk
              have hpl := put_len ⟨ck, cv, cg⟩ L
              have hT' := withE_srt ck cv cg T hT.out
              have hTl' := withE_len ck cv cg T hT.out
              rw [← hTL.out] at hov
              simp only at hov
              obtain ⟨L', hL'⟩ : ∃ L', L' = putL ⟨ck, cv, cg⟩ L := ⟨_, rfl⟩
              obtain ⟨T', hT''⟩ : ∃ T', T' = withE ck cv T cg := ⟨_, rfl⟩
              rw [← hL', ← hT''] at hov
              rw [← hL'] at hs' hpl
              rw [← hT''] at hT' hTl'
              have hput : ∀ W rs (h : Hp w6 [] rs W) (hi : rs[1]? = some (del d L)), Calls Try.prog 49 #[.pointer (some ⟨d, 0, none⟩), .agg #[.string ck, .string cv, .bool cg]] W fun e w' => e = .returned (.tuple #[]) ∧ Hp w6 [] (rs.set 1 (del d L')) w' := fun W rs h hi => by
                rw [hL']; exact put_hp h hi ⟨ck, cv, cg⟩ hs.out hL2.out hk
              have hwith : ∀ W (v : Value), Sl W v T.length (enC T) → Calls Try.prog 59 #[v, .string ck, .string cv, .bool cg] W fun e w' => ∃ v', e = .returned v' ∧ (∃ ad cp, v' = .slice ad T'.length cp) ∧ Hp W [] [.row 43 2 v' T'.length (enC T')] w' := fun W v h => by
                rw [hT'']; exact withEn_any ck cv cg v T W h (by have := hT2.out; omega) (withE_len _ _ _ _ hT.out)
              replace hput := Lib.hid hput; replace hwith := Lib.hid hwith
              replace hs' := Lib.hid hs'; replace hT' := Lib.hid hT'; replace hTl' := Lib.hid hTl'; replace hpl := Lib.hid hpl; replace hov := Lib.hid hov
              clear hk hL' hT''
              go_wp2_with (first
                | (go_at_call 48; (with_reducible refine (hfew.out _).mono ?_); rintro e w1 ⟨rfl, b1⟩; replace hp := Lib.hid ((hp.out.below b1).alloc #[.string ck, .string cv, .bool cg] 93); clear b1)
                | (go_at_call 49; go_loud ((with_reducible refine (hput.out _ _ hp.out rfl).mono ?_); rintro e w2 ⟨rfl, h2⟩; replace hp := Lib.hid (show Hp w6 [] (.box _ #[.string ck, .string cv, .bool cg] 93 :: del d L' :: rest) _ from h2); clear h2; have hsl := Lib.hid (WantAt.sl (ahead := [.box _ #[.string ck, .string cv, .bool cg] 93, del d L']) hwa.out hp.out hT2.out); have x0 := hp.out.cell (i := 0) rfl 0; have x1 := hp.out.cell (i := 0) rfl 1; have x2 := hp.out.cell (i := 0) rfl 2; simp at x0 x1 x2))
                | (go_at_call 59; (with_reducible refine (hwith.out _ _ hsl.out).mono ?_); rintro e w3 ⟨v3, rfl, ⟨ad3, cp3, rfl⟩, h3⟩; replace hp := Lib.hid (hp.out.take h3); clear h3))
              go_roundw
              case rel =>
                have hc3 := rowCap' (hp.out.row (i := 0) rfl)
                exact ⟨j + 1, L', T', ad3, cp3, _, by go_num, by omega, rfl, hc3, by have := hpl.out; omega, by have := hTl'.out; have := hTj.out; omega, hs'.out, hT'.out, hov.out.symm, Or.inr rfl, hp_head2 (hp.out.drop 1)⟩
              case measure => simp [intOf]; omega
          · obtain rfl : j = J := by omega
            have hgm : decide ((j : Int) < (len1 : Int)) = false ∨ ((j : Int) < (len1 : Int) ∧ decide ((j : Int) < 30) = false) := by
              by_cases h5 : (j : Int) < (len1 : Int)
              · right; exact ⟨h5, by simp; omega⟩
              · left; simpa using h5
            obtain ⟨w8, rfl⟩ : ∃ w8, w8 = wr := ⟨_, rfl⟩
            have hbel1 := belowCont hbel0.out hp.bel
            have hslW := WantAt.sl (ahead := [del d L]) hwa hp (by omega)
            have hslA1 := hslA.out.below hp.bel
            obtain ⟨vd, hd1, hd2⟩ := hp_bx hp (i := 0) rfl
            obtain ⟨m', hm'⟩ : ∃ m', m' = min T.length N := ⟨_, rfl⟩
            obtain ⟨G, hG⟩ : ∃ G, G = T.take N := ⟨_, rfl⟩
            have hGl : G.length = m' := by rw [hG, List.length_take, hm']; omega
            have hGm : T.take m' = G := by
              rw [hG, hm']
              by_cases h5 : N ≤ T.length
              · rw [Nat.min_eq_right h5]
              · rw [Nat.min_eq_left (by omega), List.take_of_length_le (Nat.le_refl _), List.take_of_length_le (by omega)]
            have hL5 : L.length ≤ 100000 := by omega
            have hall : ∀ W, Below w8.heap.size w8 W → Calls Try.prog 55 #[.pointer (some ⟨d, 0, none⟩)] W fun e w' => ∃ v', e = .returned v' ∧ (∃ ad cp, v' = .slice ad L.length cp) ∧ Hp W [] [.row 93 3 v' L.length (chC L)] w' := fun W hb =>
              all_any d vd L W ((hb.block _ (block_lt hd1)).trans hd1) (rowBelow hd2 hb) hs hL5
            have hovr : ∀ W (u : Value), Below w8.heap.size w8 W → Sl W u L.length (chC L) → Calls Try.prog 61 #[.slice ad nA cp, u, .int .i64 (N : Int)] W fun e w' => ∃ v', e = .returned v' ∧ (∃ ad cp, v' = .slice ad m' cp) ∧ Hp W [] [.row 43 2 v' m' (enC G)] w' := fun W u hb h => by
              have h2 := hslA1.below hb
              rw [hnA.out] at h2 ⊢
              have := over_any (.slice ad A.length cp) u A L N W h2 h (by omega) (by have := hA30.out; omega) (by omega)
              rw [← hTL, ← hG] at this
              unfold EnOf at this
              rw [hGl] at this
              exact this
            have haw := fun W => awake_any W
            have hq0 := Lib.hid (Hp.none_ w8 [])
            have hLS := Lib.hid (show L.length ≤ 140737488355328 by omega)
            have hmS := Lib.hid (show m' ≤ 140737488355328 by omega)
            have hm1 : min (T.length : Int) (N : Int) = (m' : Int) := by omega
            have hm2 : (if (T.length : Int) < (N : Int) then (T.length : Int) else (N : Int)) = (m' : Int) := by split <;> omega
            have hm3 : m' ≤ T.length := by omega
            have hm4 : (m' : Int) ≤ (cp2 : Int) := by omega
            have hm5 : m' ≤ cp2 := by omega
            have hwz : ∀ (a : Option Addr) (c : Nat), (T.length = 0 ∨ a = ad2) → c = cp2 → Sl w8 (.slice a m' c) m' (enC G) := fun a c ha hc => by
              rcases ha with ha | rfl
              · exact ⟨a, c, rfl, by omega, Or.inl (by omega)⟩
              · rw [hc, ← hGm]; exact sl_take hslW rfl hm3
            have had : T.length = 0 ∨ ∃ b o, ad2 = some ⟨b, o, none⟩ := by
              obtain ⟨a9, c9, hv9, _, h9⟩ := hslW
              injection hv9 with h91 h92 h93
              subst h91
              rcases h9 with h9 | ⟨b, o, h9, _⟩
              · exact Or.inl h9
              · exact Or.inr ⟨b, o, h9⟩
            obtain ⟨nT, hnT⟩ : ∃ nT, nT = T.length := ⟨_, rfl⟩
            rw [← hnT] at hm1 hm2 hm3 hwz had ⊢
            replace hbel1 := Lib.hid hbel1; replace hall := Lib.hid hall; replace hovr := Lib.hid hovr; replace haw := Lib.hid haw; replace hwz := Lib.hid hwz; replace hGl := Lib.hid hGl
            have hNx := hNN.out
            clear hslW hslA1 hp hd1 hd2 hm' hG hGm hnT hs hT hTL hwa hTj hTc hLj hL5 hN64 hJ30 hJl hJe hQ hY hslA hbel0 hA hA30 hcpA hnA
            rcases hgm with k1 | ⟨k1, k2⟩
            case inl =>
              have k1' : decide (j < len1) = false := by simpa using k1
              go_upto_region 15 with fail
              go_cut [10] from 82 to 87 (fun s10 wx => (∃ a c, s10 = .slice a m' c ∧ Sl w8 (.slice a m' c) m' (enC G)) ∧ w8 = wx)
              case first =>
                rcases had with h0 | ⟨b, o, rfl⟩
                · obtain rfl : m' = 0 := by omega
                  cases ad2 with
                  | none =>
                    go_wp2
                    go_meet
                    exact ⟨⟨_, _, rfl, hwz.out _ _ (Or.inl h0) rfl⟩, rfl⟩
                  | some a =>
                    obtain ⟨ab, ao, asp⟩ := a
                    go_wp2
                    go_meet
                    exact ⟨⟨_, _, rfl, hwz.out _ _ (Or.inl h0) rfl⟩, rfl⟩
                · go_wp2
                  go_meet
                  exact ⟨⟨_, _, rfl, hwz.out _ _ (Or.inr rfl) rfl⟩, rfl⟩
              obtain ⟨⟨wa, wc', rfl, hws⟩, rfl⟩ := hcut
              replace hws := Lib.hid hws
              clear hwz had hm1 hm2 hm3 hm4 hm5
              go_upto_region 17 with (first
                | (go_at_call 55; (with_reducible refine (hall.out _ hq0.out.bel).mono ?_); rintro e w9 ⟨u9, rfl, ⟨ad9, cp9, rfl⟩, h9⟩; replace hq0 := Lib.hid (hq0.out.take h9); clear h9)
                | (go_at_call 61; (with_reducible refine (hovr.out _ _ hq0.out.bel (hq0.out.sl (i := 0) rfl hLS.out)).mono ?_); rintro e w10 ⟨v9, rfl, ⟨ad10, cp10, rfl⟩, h9⟩; replace hq0 := Lib.hid (hq0.out.take h9); clear h9))
              go_wp2_with (go_at_call 53; (with_reducible refine (haw.out _).mono ?_); rintro e w11 ⟨rfl, b11⟩; replace hq0 := Lib.hid ((hq0.out.below b11).drop 1); clear b11)
              clear hall hovr haw
              go_loopw [15] (fun s15 wy => ∃ ii : Nat, s15 = .int .i64 (ii : Int) ∧ ii ≤ m' ∧ Hp w8 [] [.row 43 2 (.slice ad10 m' cp10) m' (enC G)] wy) (fun s15 _ => m' - (intOf s15).toNat)
              case atStart => exact ⟨0, rfl, by omega, hq0.out⟩
              case round =>
                clear hq0
                obtain ⟨ii, rfl, hii, hq⟩ := hrel
                by_cases hil : ii < m'
                · obtain ⟨x, hx⟩ : ∃ x, G[ii]? = some x := ⟨_, List.getElem?_eq_getElem (by have := hGl.out; omega)⟩
                  obtain ⟨a9, c9, hv9, _, h9⟩ := hq.sl (i := 0) rfl hmS.out
                  injection hv9 with e91 e92 e93
                  subst e91 e93
                  obtain ⟨b', o', rfl, hr'⟩ := h9.resolve_left (by omega)
                  obtain ⟨a8, c8, hv8, _, h8⟩ := hws.out.below hq.bel
                  injection hv8 with e81 e82 e83
                  subst e81 e83
                  obtain ⟨b'', o'', rfl, hr''⟩ := h8.resolve_left (by omega)
                  have d0 : wr.cell? ⟨b', o' + ii * 2, none⟩ = some (.string x.k) := hr'.elem0 En.c_len hx rfl
                  have d1 : wr.cell? ⟨b', o' + ii * 2 + 1, none⟩ = some (.string x.v) := hr'.elem En.c_len hx rfl
                  have f0 : wr.cell? ⟨b'', o'' + ii * 2, none⟩ = some (.string x.k) := hr''.elem0 En.c_len hx rfl
                  have f1 : wr.cell? ⟨b'', o'' + ii * 2 + 1, none⟩ = some (.string x.v) := hr''.elem En.c_len hx rfl
                  have n1 : (0 : Int) ≤ (ii : Int) := by omega
                  have n2 : (ii : Int) < (m' : Int) := by omega
                  clear hr' hr'' hx h9 h8
                  replace hq := Lib.hid hq
                  go_upto_region 22 with fail
                  go_quiet (fail)
                  go_wp2
                  go_roundw
                  case rel => exact ⟨ii + 1, by go_num, by omega, hq.out.drewN _⟩
                  case measure => simp [intOf]; omega
                · obtain rfl : m' = ii := by omega
                  replace hq := Lib.hid hq
                  go_wp2
                  go_ret
                  exact ⟨rfl, belowCont hbel1.out hq.out.bel⟩
            case inr =>
              go_upto_region 15 with fail
              go_cut [10] from 82 to 87 (fun s10 wx => (∃ a c, s10 = .slice a m' c ∧ Sl w8 (.slice a m' c) m' (enC G)) ∧ w8 = wx)
              case first =>
                rcases had with h0 | ⟨b, o, rfl⟩
                · obtain rfl : m' = 0 := by omega
                  cases ad2 with
                  | none =>
                    go_wp2
                    go_meet
                    exact ⟨⟨_, _, rfl, hwz.out _ _ (Or.inl h0) rfl⟩, rfl⟩
                  | some a =>
                    obtain ⟨ab, ao, asp⟩ := a
                    go_wp2
                    go_meet
                    exact ⟨⟨_, _, rfl, hwz.out _ _ (Or.inl h0) rfl⟩, rfl⟩
                · go_wp2
                  go_meet
                  exact ⟨⟨_, _, rfl, hwz.out _ _ (Or.inr rfl) rfl⟩, rfl⟩
              obtain ⟨⟨wa, wc', rfl, hws⟩, rfl⟩ := hcut
              replace hws := Lib.hid hws
              clear hwz had hm1 hm2 hm3 hm4 hm5
              go_upto_region 17 with (first
                | (go_at_call 55; (with_reducible refine (hall.out _ hq0.out.bel).mono ?_); rintro e w9 ⟨u9, rfl, ⟨ad9, cp9, rfl⟩, h9⟩; replace hq0 := Lib.hid (hq0.out.take h9); clear h9)
                | (go_at_call 61; (with_reducible refine (hovr.out _ _ hq0.out.bel (hq0.out.sl (i := 0) rfl hLS.out)).mono ?_); rintro e w10 ⟨v9, rfl, ⟨ad10, cp10, rfl⟩, h9⟩; replace hq0 := Lib.hid (hq0.out.take h9); clear h9))
              go_wp2_with (go_at_call 53; (with_reducible refine (haw.out _).mono ?_); rintro e w11 ⟨rfl, b11⟩; replace hq0 := Lib.hid ((hq0.out.below b11).drop 1); clear b11)
              clear hall hovr haw
              go_loopw [15] (fun s15 wy => ∃ ii : Nat, s15 = .int .i64 (ii : Int) ∧ ii ≤ m' ∧ Hp w8 [] [.row 43 2 (.slice ad10 m' cp10) m' (enC G)] wy) (fun s15 _ => m' - (intOf s15).toNat)
              case atStart => exact ⟨0, rfl, by omega, hq0.out⟩
              case round =>
                clear hq0
                obtain ⟨ii, rfl, hii, hq⟩ := hrel
                by_cases hil : ii < m'
                · obtain ⟨x, hx⟩ : ∃ x, G[ii]? = some x := ⟨_, List.getElem?_eq_getElem (by have := hGl.out; omega)⟩
                  obtain ⟨a9, c9, hv9, _, h9⟩ := hq.sl (i := 0) rfl hmS.out
                  injection hv9 with e91 e92 e93
                  subst e91 e93
                  obtain ⟨b', o', rfl, hr'⟩ := h9.resolve_left (by omega)
                  obtain ⟨a8, c8, hv8, _, h8⟩ := hws.out.below hq.bel
                  injection hv8 with e81 e82 e83
                  subst e81 e83
                  obtain ⟨b'', o'', rfl, hr''⟩ := h8.resolve_left (by omega)
                  have d0 : wr.cell? ⟨b', o' + ii * 2, none⟩ = some (.string x.k) := hr'.elem0 En.c_len hx rfl
                  have d1 : wr.cell? ⟨b', o' + ii * 2 + 1, none⟩ = some (.string x.v) := hr'.elem En.c_len hx rfl
                  have f0 : wr.cell? ⟨b'', o'' + ii * 2, none⟩ = some (.string x.k) := hr''.elem0 En.c_len hx rfl
                  have f1 : wr.cell? ⟨b'', o'' + ii * 2 + 1, none⟩ = some (.string x.v) := hr''.elem En.c_len hx rfl
                  have n1 : (0 : Int) ≤ (ii : Int) := by omega
                  have n2 : (ii : Int) < (m' : Int) := by omega
                  clear hr' hr'' hx h9 h8
                  replace hq := Lib.hid hq
                  go_upto_region 22 with fail
                  go_quiet (fail)
                  go_wp2
                  go_roundw
                  case rel => exact ⟨ii + 1, by go_num, by omega, hq.out.drewN _⟩
                  case measure => simp [intOf]; omega
                · obtain rfl : m' = ii := by omega
                  replace hq := Lib.hid hq
                  go_wp2
                  go_ret
                  exact ⟨rfl, belowCont hbel1.out hq.out.bel⟩
end Go.Proofs.Ytmfodnbhhfegeaa.delta
