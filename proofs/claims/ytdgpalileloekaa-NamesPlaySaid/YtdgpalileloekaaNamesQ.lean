/- NamesPlay: whatever names are given: each has the number of its first time, and is told by it; all of each kind come back from their bytes. No condition. -/
import Derived.Test.YtdgpalileloekaaNamesA
import Derived.BigRegion
namespace Go.Proofs.Ytdgpalileloekaa.names
open Go.RowKit
open code (numL textL)
attribute [local go_sem ↓] Go.wp_at_zero Go.wp_at_succ
attribute [local go_sem] str_size str_bl str_append
set_option linter.unusedVariables false
set_option maxRecDepth 100000

theorem mkAr {w W : World} {X : List Nat} {q : Nat} {rs : List Rs} (h : Hp w X (.box q #[.slice none 0 0, .slice none 0 0, .slice none 0 0] 52 :: rs) W) : Hp w X (arT q (fun _ => []) :: rs) W := by
  refine shutB (V := fun _ => .slice none 0 0) ?_
  refine (((h.rowNil 9 1).rowNil 9 1).rowNil 9 1).perm ?_
  unfold ArH nmR
  exact List.perm_middle (l₁ := [Rs.row 9 1 (.slice none 0 0) 0 [], Rs.row 9 1 (.slice none 0 0) 0 [], Rs.row 9 1 (.slice none 0 0) 0 []])
structure Ac where
  k : Int
  s : ByteArray
  n : Int
theorem arg_acts {w : World} {a : Option Addr} {len : Nat} (h : SliceArg w a len 3 (fun j v => match j with | 0 => ∃ x, v = .int .i64 x ∧ (Lit.int .i64 x).wf = true | 1 => ∃ x, v = .string x ∧ x.size ≤ maxLen | 2 => ∃ x, v = .int .i64 x ∧ (Lit.int .i64 x).wf = true | _ => False)) (k : Nat) (hk : k ≤ len) :
    ∃ X : List Ac, X.length = k ∧ ∀ (i : Nat) (x : Ac), X[i]? = some x → (-9223372036854775808 ≤ x.k ∧ x.k ≤ 9223372036854775807) ∧ ∃ b o, a = some ⟨b, o, none⟩ ∧ b < w.heap.size ∧ w.cell? ⟨b, o + i * 3, none⟩ = some (.int .i64 x.k) ∧ w.cell? ⟨b, o + i * 3 + 1, none⟩ = some (.string x.s) ∧ w.cell? ⟨b, o + i * 3 + 2, none⟩ = some (.int .i64 x.n) :=
  list_of (fun i (x : Ac) => (-9223372036854775808 ≤ x.k ∧ x.k ≤ 9223372036854775807) ∧ ∃ b o, a = some ⟨b, o, none⟩ ∧ b < w.heap.size ∧ w.cell? ⟨b, o + i * 3, none⟩ = some (.int .i64 x.k) ∧ w.cell? ⟨b, o + i * 3 + 1, none⟩ = some (.string x.s) ∧ w.cell? ⟨b, o + i * 3 + 2, none⟩ = some (.int .i64 x.n)) k (fun i hi => by
    obtain ⟨_, h2⟩ := h
    obtain ⟨b, o, ha, hb, hc⟩ := h2.resolve_left (by omega)
    obtain ⟨v0, c0, x0, rfl, w0⟩ := hc i (by omega) 0 (by omega)
    obtain ⟨v1, c1, x1, rfl, w1⟩ := hc i (by omega) 1 (by omega)
    obtain ⟨v2, c2, x2, rfl, w2⟩ := hc i (by omega) 2 (by omega)
    exact ⟨⟨x0, x1, x2⟩, of_wf_i64 w0, b, o, ha, hb, by simpa using c0, c1, c2⟩)
set_option maxHeartbeats 16000000 in
theorem namesPlay_walk (a0 : Option Addr) (len0 cap0 : Nat) (a1 : Int) (w : World) (w0 : SliceArg w a0 len0 3 (fun j v => match j with | 0 => ∃ x, v = .int .i64 x ∧ (Lit.int .i64 x).wf = true | 1 => ∃ x, v = .string x ∧ x.size ≤ maxLen | 2 => ∃ x, v = .int .i64 x ∧ (Lit.int .i64 x).wf = true | _ => False)) (w1 : (Lit.int .i64 a1).wf = true) :
    Calls Try.prog 5 #[.slice a0 len0 cap0, .int .i64 a1] w fun e w' => e = .returned (.bool true) ∧ Below w.heap.size w w' := by
  have hlen0 := w0.1
  obtain ⟨m, hm⟩ : ∃ m, m = min len0 40 := ⟨_, rfl⟩
  obtain ⟨X, hXl, hX⟩ := arg_acts w0 m (by omega)
  obtain ⟨N, hN1, hN2⟩ : ∃ N : Nat, bits .and .i64 a1 127 = (N : Int) ∧ N < 128 := ⟨(a1 % 128).toNat, by rw [and_127]; omega, by omega⟩
  have haw := fun W => awake_any W
  have c0 := Lib.hid (new_hp (Hp.none_ w []))
  replace hX := Lib.hid hX; replace haw := Lib.hid haw; replace hXl := Lib.hid hXl; replace hm := Lib.hid hm; replace hN2 := Lib.hid hN2; replace hlen0 := Lib.hid hlen0
  clear w0 w1
  go_enter Try.func5, Try.ntmps5
  go_upto_region 2 with (go_at_call 20; (with_reducible refine (c0.out).mono ?_); rintro e w2 ⟨d, rfl, h1⟩; have hp := Lib.hid (h1.alloc #[.slice none 0 0, .slice none 0 0, .slice none 0 0] 52); have n0 := hp.out.cell (i := 0) rfl 0; have n1 := hp.out.cell (i := 0) rfl 1; have n2 := hp.out.cell (i := 0) rfl 2; have f0 := hp.out.free (i := 0) rfl 0; have f1 := hp.out.free (i := 0) rfl 1; have f2 := hp.out.free (i := 0) rfl 2; simp at n0 n1 n2; clear h1)
  replace hp := Lib.hid (mkAr hp.out)
  clear n0 n1 n2 f0 f1 f2 c0
  generalize w2.heap.size = a at hp ⊢
  generalize w2.alloc _ = W2 at hp ⊢
  go_wp2_with (go_at_call 21; (with_reducible refine (haw.out _).mono ?_); rintro e w3 ⟨rfl, b3⟩; replace hp := Lib.hid (hp.out.below b3); clear b3)
  go_loopg [7] N (fun gn s7 wr => ∃ (i : Nat) (L : Nat → List Nm), s7 = .int .i64 (i : Int) ∧ i + gn = N ∧ Hp w [] [arT a L, nmT d L] wr ∧ L 0 = nmIs (min i 64) ∧ L 1 = [] ∧ L 2 = [])
  case atStart => exact ⟨0, fun _ => [], rfl, by omega, hp.out, rfl, rfl, rfl⟩
  case round =>
    clear hp
    obtain ⟨i, L, rfl, hiN, hp, h0, h1, h2⟩ := hrel
    replace hp := Lib.hid hp
    cases gk with
    | zero =>
      have hOk : OkL L := fun k hk => by
        match k, hk with
        | 0, _ => rw [h0]; exact nmIs_ok _ (by omega)
        | 1, _ => rw [h1]; exact ⟨by simp, by simp, by simp⟩
        | 2, _ => rw [h2]; exact ⟨by simp, by simp, by simp⟩
      obtain rfl : i = N := by omega
      clear h0 h1 h2 hiN
      go_upto_block 2 with fail
      go_cut [11] from 12 to 204 (fun s11 wx => ∃ L : Nat → List Nm, Hp w [] [arT a L, nmT d L] wx ∧ OkL L)
      case first =>
        go_wp2_with fail
        go_loopg [11] m (fun gn s11 wr => ∃ (j : Nat) (L : Nat → List Nm), s11 = .int .i64 (j : Int) ∧ j + gn = m ∧ Hp w [] [arT a L, nmT d L] wr ∧ OkL L)
        case atStart => exact ⟨0, L, rfl, by omega, hp.out, hOk⟩
        case round =>
          clear hp hOk
          obtain ⟨j, L, rfl, hjm, hp, hOk⟩ := hrel
          replace hp := Lib.hid hp; replace hOk := Lib.hid hOk
          cases gk with
          | zero =>
            obtain rfl : j = m := by omega
            clear hjm
            by_cases hl5 : (j : Int) < (len0 : Int)
            · have hl6 : ¬ (j : Int) < 40 := by have := hm.out; omega
              go_wp2_with fail
              go_meet
              exact ⟨L, hp.out, hOk.out⟩
            · go_wp2_with fail
              go_meet
              exact ⟨L, hp.out, hOk.out⟩
          | succ g =>
            have hmm := hm.out
            have hj1 : (j : Int) < (len0 : Int) := by omega
            have hj2 : (j : Int) < 40 := by omega
            have hj0 : (0 : Int) ≤ (j : Int) := by omega
            obtain ⟨x, hx⟩ : ∃ x, X[j]? = some x := ⟨_, List.getElem?_eq_getElem (by have := hXl.out; omega)⟩
            obtain ⟨hxk, b, o, rfl, hbl, hc0, hc1, hc2⟩ := hX.out j x hx
            obtain ⟨K, xs, xn⟩ := x
            simp only at hxk hc0 hc1 hc2
            have d0 := (hp.out.bel.cell (p := ⟨b, o + j * 3, none⟩) hbl).trans hc0
            have d1 := (hp.out.bel.cell (p := ⟨b, o + j * 3 + 1, none⟩) hbl).trans hc1
            have d2 := (hp.out.bel.cell (p := ⟨b, o + j * 3 + 2, none⟩) hbl).trans hc2
            have hpz := hp.out.alloc #[.int .i64 0, .string ⟨#[]⟩, .int .i64 0] 56
            have z0 := hpz.cell (i := 0) rfl 0; have z1 := hpz.cell (i := 0) rfl 1; have z2 := hpz.cell (i := 0) rfl 2
            have y0 := hpz.free (i := 0) rfl 0; have y1 := hpz.free (i := 0) rfl 1; have y2 := hpz.free (i := 0) rfl 2
            simp at z0 z1 z2
            replace hpz := Lib.hid hpz
            clear hx hc0 hc1 hc2 hmm
            have hpb := Lib.hid (hp.out.alloc #[.int .i64 K, .string xs, .int .i64 xn] 56)
            go_upto_region 17 with fail
            clear z0 z1 z2 y0 y1 y2 d0 d1 d2 hpz hp
            generalize wr.heap.size = q at hpb ⊢
            generalize wr.alloc _ = W at hpb ⊢
            obtain ⟨s, hs⟩ : ∃ s, s = xs.data.toList.take 25 := ⟨_, rfl⟩
            have hsl : s.length ≤ 25 := by rw [hs, List.length_take]; omega
            have hcut : xs.extract 0 (min (xs.size : Int) 25).toNat = str s := by rw [hs]; exact cut_min xs 25
            obtain ⟨z, hz⟩ : ∃ z : Nat, min (xs.size : Int) 25 = (z : Int) := ⟨min xs.size 25, by omega⟩
            rw [hz] at hcut
            have hzn : ((z : Int)).toNat = z := by omega
            rw [hzn] at hcut
            have hz1 : (0 : Int) ≤ (z : Int) := by omega
            have hz2 : (z : Int) ≤ (xs.size : Int) := by omega
            have hz3 : (if (xs.size : Int) < 25 then (xs.size : Int) else 25) = (z : Int) := by split <;> omega
            have e0 := hpb.out.cell (i := 0) rfl 0; have e1 := hpb.out.cell (i := 0) rfl 1; have e2 := hpb.out.cell (i := 0) rfl 2
            simp at e0 e1 e2
            have hlm := fun W => lmay_any s (by omega) W
            have hcm := fun W => may_any s (by omega) W
            replace hsl := Lib.hid hsl
            clear hs hzn
            by_cases hin : 0 ≤ K ∧ K < 3
            · obtain ⟨k, rfl⟩ : ∃ k : Nat, K = (k : Int) := ⟨K.toNat, by omega⟩
              have hk3 : k < 3 := by omega
              have hk0 : (0 : Int) ≤ (k : Int) := by omega
              have hki : (k : Int) < 3 := by omega
              obtain ⟨hok1, hok2, hok3⟩ := hOk.out k hk3
              obtain ⟨l, hl⟩ : ∃ l, l = L k := ⟨_, rfl⟩
              rw [← hl] at hok1 hok2 hok3
              obtain ⟨n, hln⟩ : ∃ n, n = l.length := ⟨_, rfl⟩
              rw [← hln] at hok1
              replace hlm := Lib.hid hlm; replace hcm := Lib.hid hcm; replace hok2 := Lib.hid hok2; replace hok3 := Lib.hid hok3; replace hln := Lib.hid hln; replace hl := Lib.hid hl
              clear hin
              have hp9 : ∀ wx rs, Hp w [] rs wx → rs[0]? = some (.box q #[.int .i64 (k : Int), .string xs, .int .i64 xn] 56) → wx.cell? ⟨q, 0, none⟩ = some (.int .i64 (k : Int)) ∧ wx.cell? ⟨q, 1, none⟩ = some (.string xs) := fun wx rs h hi => ⟨h.cell hi 0, h.cell hi 1⟩
              have hall : ∀ wx rs, Hp w [] rs wx → rs[1]? = some (arT a L) → ∃ ad cp, wx.cell? ⟨a, k, none⟩ = some (.slice ad n cp) ∧ wx.ownsRow 0 9 1 (.slice ad n cp) n (nmC l) ∧ wx.frozen? ⟨a, k, none⟩ = false := fun wx rs h hi => by
                obtain ⟨V, hv1, hv2⟩ := hp_ar h hi
                have hr0 := hv2 k hk3
                rw [← hl.out, ← hln.out] at hr0
                obtain ⟨ad, cp, hV⟩ := rowShape hr0
                refine ⟨ad, cp, ?_, by rw [← hV]; exact hr0, by simp [World.frozen?, hv1]⟩
                rw [cell_of_row _ _ k _ _ _ hv1, nm_cell hk3, hV]
              replace hp9 := Lib.hid hp9; replace hall := Lib.hid hall
              go_upto_block 4 with fail
              clear hcut hz hz1 hz2 hz3 e1 e2
              go_cut [15, 16] from 97 to 118 (fun s15 s16 wx => s15 = .int .i64 (atN l s) ∧ Hp w [] [.box q #[.int .i64 (k : Int), .string xs, .int .i64 xn] 56, arT a L, nmT d L] wx)
              case first =>
                clear e0
                go_wp2_with fail
                go_loopg [15, 16] n (fun gt s15 s16 wx => ∃ t : Nat, s16 = .int .i64 (t : Int) ∧ t + gt = n ∧ s15 = .int .i64 (atN (l.take t) s) ∧ Hp w [] [.box q #[.int .i64 (k : Int), .string xs, .int .i64 xn] 56, arT a L, nmT d L] wx)
                case atStart => exact ⟨0, rfl, by omega, by simp [atN], hpb.out⟩
                case round =>
                  clear hpb
                  obtain ⟨t, rfl, htn, rfl, hp⟩ := hrel
                  obtain ⟨ad, cp, d0, hrow, hfz⟩ := hall.out _ _ hp rfl
                  obtain ⟨e0, e1⟩ := hp9.out _ _ hp rfl
                  clear hfz
                  clear e1
                  replace hp := Lib.hid hp
                  cases gk with
                  | zero =>
                    obtain rfl : t = n := by omega
                    have htk : l.take t = l := List.take_of_length_le (by rw [← hln.out]; exact Nat.le_refl _)
                    rw [htk]
                    clear hrow htk
                    go_wp2_with fail
                    go_meet
                    exact ⟨rfl, hp.out⟩
                  | succ u =>
                    have ht1 : (t : Int) < (n : Int) := by omega
                    have ht0 : (0 : Int) ≤ (t : Int) := by omega
                    obtain ⟨y, hy⟩ : ∃ y, l[t]? = some y := ⟨_, List.getElem?_eq_getElem (by have := hln.out; omega)⟩
                    obtain ⟨b', cp2, hv, _, _⟩ := hrow.form (by omega)
                    injection hv with hv1 hv2 hv3
                    subst hv1 hv3
                    have d1 : wr.cell? ⟨b', t, none⟩ = some (.string (str y)) := (hrow.cellAt t (by omega)).trans (nmC_at l t y hy)
                    have hst := at_step hok2.out (s := s) hy
                    clear hrow hy
                    obtain ⟨A, hA⟩ : ∃ A, A = atN (l.take t) s := ⟨_, rfl⟩
                    rw [← hA] at hst ⊢
                    clear hA
                    by_cases hys : y = s
                    · subst hys
                      rw [if_pos rfl] at hst
                      have teq : (y == y) = true := by simp
                      replace hst := Lib.hid hst
                      go_wp2_with fail
                      go_roundg u
                      case rel => exact ⟨t + 1, by go_num, by omega, by rw [hst.out], hp.out⟩
                      case measure => omega
                    · rw [if_neg hys] at hst
                      have teq : (y == s) = false := by simp [hys]
                      replace hst := Lib.hid hst
                      clear hys
                      go_wp2_with fail
                      go_roundg u
                      case rel => exact ⟨t + 1, by go_num, by omega, by rw [hst.out], hp.out⟩
                      case measure => omega
              case rest =>
                obtain ⟨rfl, hp⟩ := hcut
                replace hp := Lib.hid hp
                obtain ⟨e0, e1⟩ := hp9.out _ _ hp.out rfl
                clear e1
                have hlen47 : s.length ≤ 140737488355328 := by have := hsl.out; omega
                cases hmbx : mayN s with
                | false =>
                  have hno : s ∉ l := fun h => by have := hok3.out s h; rw [hmbx] at this; cases this
                  have hat : atN l s = -1 := by unfold atN; rw [if_neg hno]
                  rw [hat]
                  have hfind : ∀ W rs, Hp w [] rs W → rs[2]? = some (nmT d L) → Calls Try.prog 24 #[.pointer (some ⟨d, 0, none⟩), .int .i64 (k : Int), .string (str s)] W fun e w' => e = .returned (.tuple #[.int .i64 0, .bool false]) ∧ w' = W := fun W rs h hi => by
                    have := find_hp h hi k hk3 s (by rw [← hl.out]; have := hln.out; omega)
                    rw [← hl.out] at this
                    rw [show fdN l s = 0 from if_neg hno, decide_eq_false hno] at this
                    exact this
                  have hgive : ∀ W, Calls Try.prog 22 #[.pointer (some ⟨d, 0, none⟩), .int .i64 (k : Int), .string (str s)] W fun e w' => e = .returned (.tuple #[.int .i64 0, .int .i64 1]) ∧ Below W.heap.size W w' := fun W => give_bad d k s hlen47 (Or.inr hmbx) W
                  have hlm' := hlm.out; have hcm' := hcm.out
                  rw [hmbx] at hlm' hcm'
                  replace hlm := Lib.hid hlm'; replace hcm := Lib.hid hcm'; replace hfind := Lib.hid hfind; replace hgive := Lib.hid hgive; replace hok1 := Lib.hid hok1
                  clear hno hat hmbx hlm' hcm'
                  go_wp2_with (first | (go_at_call 23; (with_reducible refine (hlm.out _).mono ?_); rintro e w9 ⟨rfl, rfl⟩) | (go_at_call 24; (with_reducible refine (hfind.out _ _ hp.out rfl).mono ?_); rintro e w9 ⟨rfl, rfl⟩) | (go_at_call 22; (with_reducible refine (hgive.out _).mono ?_); rintro e w9 ⟨rfl, b9⟩; replace hp := Lib.hid (hp.out.below b9); clear b9) | (go_at_call 25; (with_reducible refine (hcm.out _).mono ?_); rintro e w9 ⟨rfl, b9⟩; replace hp := Lib.hid (hp.out.below b9); clear b9; have e0 := (hp9.out _ _ hp.out rfl).1))
                  go_roundg g
                  case rel => exact ⟨j + 1, L, by go_num, by omega, hp.out.drop 0, hOk.out⟩
                  case measure => omega
                | true =>
                  have hmb := Lib.hid hmbx
                  have hlm' := hlm.out; have hcm' := hcm.out
                  rw [hmbx] at hlm' hcm'
                  replace hlm := Lib.hid hlm'; replace hcm := Lib.hid hcm'
                  clear hmbx hlm' hcm'
                  by_cases hin : s ∈ l
                  · obtain ⟨A, hA⟩ : ∃ A, A = l.idxOf s := ⟨_, rfl⟩
                    have hat : atN l s = (A : Int) := by unfold atN; rw [if_pos hin, hA]
                    rw [hat]
                    have hAl : l[A]? = some s := by rw [hA, List.getElem?_eq_getElem (List.idxOf_lt_length_of_mem hin)]; exact congrArg some (List.getElem_idxOf _)
                    have hA0 : (0 : Int) ≤ (A : Int) := by omega
                    have hmx : max (A : Int) 0 = (A : Int) := by omega
                    have hmx2 : (if (A : Int) < 0 then (0 : Int) else (A : Int)) = (A : Int) := by split <;> omega
                    have hfind : ∀ W rs, Hp w [] rs W → rs[2]? = some (nmT d L) → Calls Try.prog 24 #[.pointer (some ⟨d, 0, none⟩), .int .i64 (k : Int), .string (str s)] W fun e w' => e = .returned (.tuple #[.int .i64 (A : Int), .bool true]) ∧ w' = W := fun W rs h hi => by
                      have := find_hp h hi k hk3 s (by rw [← hl.out]; have := hln.out; omega)
                      rw [← hl.out] at this
                      rw [show fdN l s = A from (if_pos hin).trans hA.symm, decide_eq_true hin] at this
                      exact this
                    have hgive : ∀ W rs, Hp w [] rs W → rs[2]? = some (nmT d L) → Calls Try.prog 22 #[.pointer (some ⟨d, 0, none⟩), .int .i64 (k : Int), .string (str s)] W fun e w' => e = .returned (.tuple #[.int .i64 (A : Int), .int .i64 0]) ∧ Hp w [] (rs.set 2 (nmT d L)) w' := fun W rs h hi => by
                      have := give_hp h hi k hk3 s hmb.out (by rw [← hl.out]; have := hln.out; omega)
                      rw [← hl.out] at this
                      rw [show gvN l s = A from (if_pos hin).trans hA.symm, show gvE l s = 0 from if_pos hin, show gvL l s = l from if_pos hin, upd_eq L k l hl.out.symm] at this
                      exact this
                    have hname : ∀ W rs, Hp w [] rs W → rs[2]? = some (nmT d L) → Calls Try.prog 26 #[.pointer (some ⟨d, 0, none⟩), .int .i64 (k : Int), .int .i64 (A : Int)] W fun e w' => e = .returned (.string (str s)) ∧ w' = W := fun W rs h hi => name_ok h hi k hk3 A s (by rw [← hl.out]; exact hAl) (by rw [← hl.out]; have := hln.out; omega)
                    have ts : (s != s) = false := by simp
                    replace hfind := Lib.hid hfind; replace hgive := Lib.hid hgive; replace hname := Lib.hid hname; replace hok1 := Lib.hid hok1
                    clear hin hat hA hAl
                    go_wp2_with (first | (go_at_call 23; (with_reducible refine (hlm.out _).mono ?_); rintro e w9 ⟨rfl, rfl⟩) | (go_at_call 24; (with_reducible refine (hfind.out _ _ hp.out rfl).mono ?_); rintro e w9 ⟨rfl, rfl⟩) | (go_at_call 22; (with_reducible refine (hgive.out _ _ hp.out rfl).mono ?_); rintro e w9 ⟨rfl, h9⟩; replace hp := Lib.hid h9; clear h9) | (go_at_call 25; (with_reducible refine (hcm.out _).mono ?_); rintro e w9 ⟨rfl, b9⟩; replace hp := Lib.hid (hp.out.below b9); clear b9; have e0 := (hp9.out _ _ hp.out rfl).1) | (go_at_call 26; (with_reducible refine (hname.out _ _ hp.out rfl).mono ?_); rintro e w9 ⟨rfl, rfl⟩))
                    go_roundg g
                    case rel => exact ⟨j + 1, L, by go_num, by omega, hp.out.drop 0, hOk.out⟩
                    case measure => omega
                  · have hat : atN l s = -1 := by unfold atN; rw [if_neg hin]
                    rw [hat]
                    obtain ⟨ad, cp, d0, hrow, hfz⟩ := hall.out _ _ hp.out rfl
                    clear hrow hfz
                    have hfind : ∀ W rs, Hp w [] rs W → rs[2]? = some (nmT d L) → Calls Try.prog 24 #[.pointer (some ⟨d, 0, none⟩), .int .i64 (k : Int), .string (str s)] W fun e w' => e = .returned (.tuple #[.int .i64 0, .bool false]) ∧ w' = W := fun W rs h hi => by
                      have := find_hp h hi k hk3 s (by rw [← hl.out]; have := hln.out; omega)
                      rw [← hl.out] at this
                      rw [show fdN l s = 0 from if_neg hin, decide_eq_false hin] at this
                      exact this
                    by_cases hfull : 64 ≤ n
                    · have hfi : (64 : Int) ≤ (n : Int) := by omega
                      have hgive : ∀ W rs, Hp w [] rs W → rs[2]? = some (nmT d L) → Calls Try.prog 22 #[.pointer (some ⟨d, 0, none⟩), .int .i64 (k : Int), .string (str s)] W fun e w' => e = .returned (.tuple #[.int .i64 0, .int .i64 5]) ∧ Hp w [] (rs.set 2 (nmT d L)) w' := fun W rs h hi => by
                        have := give_hp h hi k hk3 s hmb.out (by rw [← hl.out]; have := hln.out; omega)
                        rw [← hl.out] at this
                        rw [show gvN l s = 0 by (unfold gvN; rw [if_neg hin, ← hln.out, if_pos hfull]), show gvE l s = 5 by (unfold gvE; rw [if_neg hin, ← hln.out, if_pos hfull]), show gvL l s = l by (unfold gvL; rw [if_neg hin, ← hln.out, if_pos hfull]), upd_eq L k l hl.out.symm] at this
                        exact this
                      replace hfind := Lib.hid hfind; replace hgive := Lib.hid hgive; replace hok1 := Lib.hid hok1
                      clear hin hat hfull
                      go_wp2_with (first | (go_at_call 23; (with_reducible refine (hlm.out _).mono ?_); rintro e w9 ⟨rfl, rfl⟩) | (go_at_call 24; (with_reducible refine (hfind.out _ _ hp.out rfl).mono ?_); rintro e w9 ⟨rfl, rfl⟩) | (go_at_call 22; (with_reducible refine (hgive.out _ _ hp.out rfl).mono ?_); rintro e w9 ⟨rfl, h9⟩; replace hp := Lib.hid h9; clear h9) | (go_at_call 25; (with_reducible refine (hcm.out _).mono ?_); rintro e w9 ⟨rfl, b9⟩; replace hp := Lib.hid (hp.out.below b9); clear b9; have e0 := (hp9.out _ _ hp.out rfl).1))
                      go_roundg g
                      case rel => exact ⟨j + 1, L, by go_num, by omega, hp.out.drop 0, hOk.out⟩
                      case measure => omega
                    · as_aux_lemma =>
                        have hfi : (n : Int) < 64 := by omega
                        have hgive : ∀ W rs, Hp w [] rs W → rs[2]? = some (nmT d L) → Calls Try.prog 22 #[.pointer (some ⟨d, 0, none⟩), .int .i64 (k : Int), .string (str s)] W fun e w' => e = .returned (.tuple #[.int .i64 (n : Int), .int .i64 0]) ∧ Hp w [] (rs.set 2 (nmT d (upd L k (l ++ [s])))) w' := fun W rs h hi => by
                          have := give_hp h hi k hk3 s hmb.out (by rw [← hl.out]; have := hln.out; omega)
                          rw [← hl.out] at this
                          rw [show gvN l s = n by (unfold gvN; rw [if_neg hin, ← hln.out, if_neg hfull]), show gvE l s = 0 by (unfold gvE; rw [if_neg hin, ← hln.out, if_neg hfull]), show gvL l s = l ++ [s] by (unfold gvL; rw [if_neg hin, ← hln.out, if_neg hfull])] at this
                          exact this
                        have hname : ∀ W rs, Hp w [] rs W → rs[2]? = some (nmT d (upd L k (l ++ [s]))) → Calls Try.prog 26 #[.pointer (some ⟨d, 0, none⟩), .int .i64 (k : Int), .int .i64 (n : Int)] W fun e w' => e = .returned (.string (str s)) ∧ w' = W := fun W rs h hi => name_ok h hi k hk3 n s (by rw [upd_same, hln.out]; simp) (by rw [upd_same, List.length_append]; have := hln.out; simp; omega)
                        have hOk2 : OkL (upd L k (l ++ [s])) := okL_upd hOk.out k (by
                          have := ok_gv (hOk.out k hk3) hmb.out
                          rw [← hl.out] at this
                          rwa [show gvL l s = l ++ [s] by (unfold gvL; rw [if_neg hin, ← hln.out, if_neg hfull])] at this)
                        obtain ⟨m2, hk10⟩ : ∃ m2, n + 1 = m2 := ⟨_, rfl⟩
                        have hM1 : (l ++ [s]).length = m2 := by rw [List.length_append, ← hln.out, ← hk10]; rfl
                        obtain ⟨zs, hz10⟩ : ∃ zs, nmC l ++ [.string (str s)] = zs := ⟨_, rfl⟩
                        have hM2 : nmC (l ++ [s]) = zs := by rw [nmC_append, ← hz10]; rfl
                        have hl1 : (nmC l).length = n * 1 := by rw [nmC_len, ← hln.out]; omega
                        have hk7 : 0 + n = n := by omega
                        have hz7 : ([] : List Value) ++ nmC l = nmC l := rfl
                        have hb7 : 0 + n ≤ 100000000 := by omega
                        have hb10 : n + 1 ≤ 100000000 := by omega
                        have hon : ∀ u ∈ [Value.string (str s)], u.oneCell' = true := fun u hu => by simp at hu; subst hu; rfl
                        have hsz5 := Lib.hid (fun (W : World) (o : Obj) => (by simp : (W.alloc o).heap.size = W.heap.size + 1))
                        have ts : (s != s) = false := by simp
                        have hn47 : n ≤ 140737488355328 := by omega
                        replace hfind := Lib.hid hfind; replace hgive := Lib.hid hgive; replace hname := Lib.hid hname; replace hok1 := Lib.hid hok1; replace hOk2 := Lib.hid hOk2
                        replace hk10 := Lib.hid hk10; replace hM1 := Lib.hid hM1; replace hz10 := Lib.hid hz10; replace hM2 := Lib.hid hM2; replace hl1 := Lib.hid hl1; replace hk7 := Lib.hid hk7; replace hz7 := Lib.hid hz7; replace hb7 := Lib.hid hb7; replace hb10 := Lib.hid hb10; replace hon := Lib.hid hon; replace hn47 := Lib.hid hn47
                        clear hin hat hfull
                        go_upto_region 39 with (first | (go_at_call 23; (with_reducible refine (hlm.out _).mono ?_); rintro e w29 ⟨rfl, rfl⟩) | (go_at_call 24; (with_reducible refine (hfind.out _ _ hp.out rfl).mono ?_); rintro e w9 ⟨rfl, rfl⟩) | (go_at_call 22; (with_reducible refine (hgive.out _ _ hp.out rfl).mono ?_); rintro e w9 ⟨rfl, h9⟩; replace hp := Lib.hid h9; clear h9) | (go_at_call 25; (with_reducible refine (hcm.out _).mono ?_); rintro e w19 ⟨rfl, b9⟩; replace hp := Lib.hid (hp.out.below b9); clear b9; have e0 := (hp9.out _ _ hp.out rfl).1; obtain ⟨ad1, cp1, d0, hrow, hfz⟩ := hall.out _ _ hp.out rfl; replace hrow := Lib.hid hrow; replace hfz := Lib.hid hfz))
                        obtain ⟨V, hv⟩ := openB (hp.out.perm (List.Perm.swap _ _ _))
                        have hneq : (⟨a, k, none⟩ : Addr).block ≠ (⟨q, 0, none⟩ : Addr).block := hv.ne (i := 0) (j := 4) rfl rfl (by decide)
                        have hqlt := hv.lt (i := 4) rfl
                        have halt := hv.lt (i := 0) rfl
                        have hcA : ∀ W', Below w29.heap.size w29 W' → W'.cell? ⟨a, k, none⟩ = some (.slice ad1 n cp1) ∧ W'.frozen? ⟨a, k, none⟩ = false ∧ W'.cell? ⟨q, 0, none⟩ = some (.int .i64 (k : Int)) := fun W' hb => ⟨(hb.cell (p := ⟨a, k, none⟩) halt).trans d0, (hb.frozen (p := ⟨a, k, none⟩) halt).trans hfz.out, (hb.cell (p := ⟨q, 0, none⟩) hqlt).trans e0⟩
                        have hSl : ∀ W', Below w29.heap.size w29 W' → Sl W' (.slice ad1 n cp1) n (nmC l) := fun W' hb => (Sl.ofRow hrow.out hn47.out).below hb
                        have hq := Lib.hid (Hp.none_ w29 [])
                        replace hv := Lib.hid hv; replace hneq := Lib.hid hneq; replace hcA := Lib.hid hcA; replace hSl := Lib.hid hSl
                        clear hqlt halt hrow hfz hp
                        go_cut [15] from 181 to 192 (fun s15 wx => s15 = .int .i64 (n : Int) ∧ Hp w [] [.box q #[.int .i64 (k : Int), .string xs, .int .i64 xn] 56, arT a (upd L k (l ++ [s])), nmT d (upd L k (l ++ [s]))] wx)
                        case first =>
                          refine wp_region_noPanic ?_; refine wp_region_held_drew (S := (fun W' => W'.cell? ⟨q, 0, none⟩ = some (.int .i64 (k : Int)))) (by kernel_rfl) ?_ (fun hHeld => ?_); (focus ((try dsimp only); (first | exact (hcA.out _ hq.out.bel).2.2 | exact (hcA.out _ hq.out.drew.bel).2.2 | exact (World.cell?_setCell_far _ _ _ _ hneq.out).trans (hcA.out _ hq.out.bel).2.2); done))
                          have dk := (hcA.out _ hq.out.bel).1
                          have fk := (hcA.out _ hq.out.bel).2.1
                          (refine take_t (i := 0) (d := 181) (oi := _) (v := ?_) rfl rfl (by kernel_rfl) (by kernel_rfl) (by kernel_rfl) (by rfl) ?_ (by assumption) ?_; rotate_left; (focus (intro w0 hSw; (try dsimp only at hSw); go_simp; (try with_reducible rfl); done)); try simp only [Act.put, List.setIfInBounds_toArray, List.set_cons_zero, List.set_cons_succ]); (refine take_t (i := 1) (d := 182) (oi := _) (v := ?_) rfl rfl (by kernel_rfl) (by kernel_rfl) (by kernel_rfl) (by rfl) ?_ (by assumption) ?_; rotate_left; (focus (intro w0 hSw; (try dsimp only at hSw); go_simp; (try with_reducible rfl); done)); try simp only [Act.put, List.setIfInBounds_toArray, List.set_cons_zero, List.set_cons_succ]); (refine take_t (i := 3) (d := 184) (oi := _) (v := ?_) rfl rfl (by kernel_rfl) (by kernel_rfl) (by kernel_rfl) (by rfl) ?_ (by assumption) ?_; rotate_left; (focus (intro w0 hSw; (try dsimp only at hSw); go_simp; (try with_reducible rfl); done)); try simp only [Act.put, List.setIfInBounds_toArray, List.set_cons_zero, List.set_cons_succ]); (refine take_t (i := 4) (d := 185) (oi := _) (v := ?_) rfl rfl (by kernel_rfl) (by kernel_rfl) (by kernel_rfl) (by rfl) ?_ (by assumption) ?_; rotate_left; (focus (intro w0 hSw; (try dsimp only at hSw); go_simp; (try with_reducible rfl); done)); try simp only [Act.put, List.setIfInBounds_toArray, List.set_cons_zero, List.set_cons_succ]); (refine take_t (i := 5) (d := 186) (oi := _) (v := ?_) rfl rfl (by kernel_rfl) (by kernel_rfl) (by kernel_rfl) (by rfl) ?_ (by assumption) ?_; rotate_left; (focus (intro w0 hSw; (try dsimp only at hSw); go_simp; (try with_reducible rfl); done)); try simp only [Act.put, List.setIfInBounds_toArray, List.set_cons_zero, List.set_cons_succ]); (refine take_t (i := 8) (d := 189) (oi := _) (v := ?_) rfl rfl (by kernel_rfl) (by kernel_rfl) (by kernel_rfl) (by rfl) ?_ (by assumption) ?_; rotate_left; (focus (intro w0 hSw; (try dsimp only at hSw); go_simp; (try with_reducible rfl); done)); try simp only [Act.put, List.setIfInBounds_toArray, List.set_cons_zero, List.set_cons_succ])
                          refine wpAnyH_ready (rs := [2, 6, 9]) (by kernel_rfl) (by simp) ?_; refine (AllReadyH.cons (o := _) rfl (fun K' hK => ?_) (AllReadyH.cons (o := _) rfl (fun K' hK => ?_) (AllReadyH.cons (o := _) rfl (fun K' hK => ?_) AllReadyH.nil)))
                          · go_simp; (replace hq := Lib.hid (hq.out.rowLit #[] 9 1 0 (by decide) rfl); (first | rw [hsz5.out] at hq | skip); have dk := (hcA.out _ hq.out.bel).1; have fk := (hcA.out _ hq.out.bel).2.1)
                            (try dsimp only); refine hK.out _ _ ?_ (fun hHeld2 => ?_); (focus ((try dsimp only); (first | exact (hcA.out _ hq.out.bel).2.2 | exact (hcA.out _ hq.out.drew.bel).2.2 | exact (World.cell?_setCell_far _ _ _ _ hneq.out).trans (hcA.out _ hq.out.bel).2.2); done)); clear hK K'; clear hHeld; have hHeld := hHeld2; clear hHeld2; try simp only [Act.put, List.setIfInBounds_toArray, List.set_cons_zero, List.set_cons_succ]
                            refine wpAnyH_ready (rs := [6, 9]) (by kernel_rfl) (by simp) ?_; refine (AllReadyH.cons (o := _) rfl (fun K' hK => ?_) (AllReadyH.cons (o := _) rfl (fun K' hK => ?_) AllReadyH.nil))
                            · go_simp; (skip)
                              (try dsimp only); refine hK.out _ _ ?_ (fun hHeld2 => ?_); (focus ((try dsimp only); (first | exact (hcA.out _ hq.out.bel).2.2 | exact (hcA.out _ hq.out.drew.bel).2.2 | exact (World.cell?_setCell_far _ _ _ _ hneq.out).trans (hcA.out _ hq.out.bel).2.2); done)); clear hK K'; clear hHeld; have hHeld := hHeld2; clear hHeld2; try simp only [Act.put, List.setIfInBounds_toArray, List.set_cons_zero, List.set_cons_succ]
                              refine wpAnyH_ready (rs := [7, 9]) (by kernel_rfl) (by simp) ?_; refine (AllReadyH.cons (o := _) rfl (fun K' hK => ?_) (AllReadyH.cons (o := _) rfl (fun K' hK => ?_) AllReadyH.nil))
                              · (refine step_append_sl_hpk rfl _ _ rfl Try.underlying51 strInfo rfl (by decide) (by decide) hq.out.drew 0 rfl rfl rfl (hSl.out _ hq.out.drew.bel) hl1.out (nmC_one _) hb7.out hk7.out hz7.out ?_; intro v5 w5 h5 hv5; replace hq := Lib.hid h5; clear h5; obtain ⟨ad5, cp5, rfl⟩ := hv5; have dk := (hcA.out _ hq.out.bel).1; have fk := (hcA.out _ hq.out.bel).2.1)
                                (try dsimp only); refine hK.out _ _ ?_ (fun hHeld2 => ?_); (focus ((try dsimp only); (first | exact (hcA.out _ hq.out.bel).2.2 | exact (hcA.out _ hq.out.drew.bel).2.2 | exact (World.cell?_setCell_far _ _ _ _ hneq.out).trans (hcA.out _ hq.out.bel).2.2); done)); clear hK K'; clear hHeld; have hHeld := hHeld2; clear hHeld2; try simp only [Act.put, List.setIfInBounds_toArray, List.set_cons_zero, List.set_cons_succ]
                                refine wpAnyH_ready (rs := [9]) (by kernel_rfl) (by simp) ?_; refine (AllReadyH.cons (o := _) rfl (fun K' hK => ?_) AllReadyH.nil)
                                go_simp; (replace hq := Lib.hid (hq.out.alloc #[.string (str s)] 9); (first | rw [hsz5.out] at hq | skip); have dk := (hcA.out _ hq.out.bel).1; have fk := (hcA.out _ hq.out.bel).2.1)
                                (try dsimp only); refine hK.out _ _ ?_ (fun hHeld2 => ?_); (focus ((try dsimp only); (first | exact (hcA.out _ hq.out.bel).2.2 | exact (hcA.out _ hq.out.drew.bel).2.2 | exact (World.cell?_setCell_far _ _ _ _ hneq.out).trans (hcA.out _ hq.out.bel).2.2); done)); clear hK K'; clear hHeld; have hHeld := hHeld2; clear hHeld2; try simp only [Act.put, List.setIfInBounds_toArray, List.set_cons_zero, List.set_cons_succ]
                                refine wpAnyH_ready (rs := [10]) (by kernel_rfl) (by simp) ?_; refine (AllReadyH.cons (o := _) rfl (fun K' hK => ?_) AllReadyH.nil)
                                (refine step_append_sl_hpk rfl _ _ rfl Try.underlying51 strInfo rfl (by decide) (by decide) hq.out 1 rfl rfl rfl (box_sl hq.out (i := 0) rfl) rfl hon.out hb10.out hk10.out hz10.out ?_; intro v6 w6 h6 hv6; replace hq := Lib.hid h6; clear h6; obtain ⟨ad6, cp6, rfl⟩ := hv6; have dk := (hcA.out _ hq.out.bel).1; have fk := (hcA.out _ hq.out.bel).2.1)
                                (try dsimp only); refine hK.out _ _ ?_ (fun hHeld2 => ?_); (focus ((try dsimp only); (first | exact (hcA.out _ hq.out.bel).2.2 | exact (hcA.out _ hq.out.drew.bel).2.2 | exact (World.cell?_setCell_far _ _ _ _ hneq.out).trans (hcA.out _ hq.out.bel).2.2); done)); clear hK K'; clear hHeld; have hHeld := hHeld2; clear hHeld2; try simp only [Act.put, List.setIfInBounds_toArray, List.set_cons_zero, List.set_cons_succ]
                                (refine take_t (i := 11) (d := 192) (oi := _) (v := ?_) rfl rfl (by kernel_rfl) (by kernel_rfl) (by kernel_rfl) (by rfl) ?_ (by assumption) ?_; rotate_left; (focus (intro w0 hSw; (try dsimp only at hSw); go_simp; (try with_reducible rfl); done)); try simp only [Act.put, List.setIfInBounds_toArray, List.set_cons_zero, List.set_cons_succ])
                                refine wpAnyH_ready (rs := [12]) (by kernel_rfl) (by simp) ?_; refine (AllReadyH.cons (o := _) rfl (fun K' hK => ?_) AllReadyH.nil)
                                go_simp; (skip)
                                (try dsimp only); refine hK.out _ _ ?_ (fun hHeld2 => ?_); (focus ((try dsimp only); (first | exact (hcA.out _ hq.out.bel).2.2 | exact (hcA.out _ hq.out.drew.bel).2.2 | exact (World.cell?_setCell_far _ _ _ _ hneq.out).trans (hcA.out _ hq.out.bel).2.2); done)); clear hK K'; clear hHeld; have hHeld := hHeld2; clear hHeld2; try simp only [Act.put, List.setIfInBounds_toArray, List.set_cons_zero, List.set_cons_succ]
                                refine wpAnyH_done (by kernel_rfl) ?_ _; refine NoPanic.normal ?_
                                go_wp2_with fail
                                go_meet
                                exact ⟨rfl, (putB2 hk3 ((hv.out.take hq.out).drop 0) hM1.out hM2.out).perm (List.Perm.swap _ _ _)⟩
                              · go_simp; (replace hq := Lib.hid (hq.out.alloc #[.string (str s)] 9); (first | rw [hsz5.out] at hq | skip); have dk := (hcA.out _ hq.out.bel).1; have fk := (hcA.out _ hq.out.bel).2.1)
                                (try dsimp only); refine hK.out _ _ ?_ (fun hHeld2 => ?_); (focus ((try dsimp only); (first | exact (hcA.out _ hq.out.bel).2.2 | exact (hcA.out _ hq.out.drew.bel).2.2 | exact (World.cell?_setCell_far _ _ _ _ hneq.out).trans (hcA.out _ hq.out.bel).2.2); done)); clear hK K'; clear hHeld; have hHeld := hHeld2; clear hHeld2; try simp only [Act.put, List.setIfInBounds_toArray, List.set_cons_zero, List.set_cons_succ]
                                refine wpAnyH_ready (rs := [7]) (by kernel_rfl) (by simp) ?_; refine (AllReadyH.cons (o := _) rfl (fun K' hK => ?_) AllReadyH.nil)
                                (refine step_append_sl_hpk rfl _ _ rfl Try.underlying51 strInfo rfl (by decide) (by decide) hq.out.drew 1 rfl rfl rfl (hSl.out _ hq.out.drew.bel) hl1.out (nmC_one _) hb7.out hk7.out hz7.out ?_; intro v5 w5 h5 hv5; replace hq := Lib.hid h5; clear h5; obtain ⟨ad5, cp5, rfl⟩ := hv5; have dk := (hcA.out _ hq.out.bel).1; have fk := (hcA.out _ hq.out.bel).2.1)
                                (try dsimp only); refine hK.out _ _ ?_ (fun hHeld2 => ?_); (focus ((try dsimp only); (first | exact (hcA.out _ hq.out.bel).2.2 | exact (hcA.out _ hq.out.drew.bel).2.2 | exact (World.cell?_setCell_far _ _ _ _ hneq.out).trans (hcA.out _ hq.out.bel).2.2); done)); clear hK K'; clear hHeld; have hHeld := hHeld2; clear hHeld2; try simp only [Act.put, List.setIfInBounds_toArray, List.set_cons_zero, List.set_cons_succ]
                                refine wpAnyH_ready (rs := [10]) (by kernel_rfl) (by simp) ?_; refine (AllReadyH.cons (o := _) rfl (fun K' hK => ?_) AllReadyH.nil)
                                (refine step_append_sl_hpk rfl _ _ rfl Try.underlying51 strInfo rfl (by decide) (by decide) hq.out 1 rfl rfl rfl (box_sl hq.out (i := 0) rfl) rfl hon.out hb10.out hk10.out hz10.out ?_; intro v6 w6 h6 hv6; replace hq := Lib.hid h6; clear h6; obtain ⟨ad6, cp6, rfl⟩ := hv6; have dk := (hcA.out _ hq.out.bel).1; have fk := (hcA.out _ hq.out.bel).2.1)
                                (try dsimp only); refine hK.out _ _ ?_ (fun hHeld2 => ?_); (focus ((try dsimp only); (first | exact (hcA.out _ hq.out.bel).2.2 | exact (hcA.out _ hq.out.drew.bel).2.2 | exact (World.cell?_setCell_far _ _ _ _ hneq.out).trans (hcA.out _ hq.out.bel).2.2); done)); clear hK K'; clear hHeld; have hHeld := hHeld2; clear hHeld2; try simp only [Act.put, List.setIfInBounds_toArray, List.set_cons_zero, List.set_cons_succ]
                                (refine take_t (i := 11) (d := 192) (oi := _) (v := ?_) rfl rfl (by kernel_rfl) (by kernel_rfl) (by kernel_rfl) (by rfl) ?_ (by assumption) ?_; rotate_left; (focus (intro w0 hSw; (try dsimp only at hSw); go_simp; (try with_reducible rfl); done)); try simp only [Act.put, List.setIfInBounds_toArray, List.set_cons_zero, List.set_cons_succ])
                                refine wpAnyH_ready (rs := [12]) (by kernel_rfl) (by simp) ?_; refine (AllReadyH.cons (o := _) rfl (fun K' hK => ?_) AllReadyH.nil)
                                go_simp; (skip)
                                (try dsimp only); refine hK.out _ _ ?_ (fun hHeld2 => ?_); (focus ((try dsimp only); (first | exact (hcA.out _ hq.out.bel).2.2 | exact (hcA.out _ hq.out.drew.bel).2.2 | exact (World.cell?_setCell_far _ _ _ _ hneq.out).trans (hcA.out _ hq.out.bel).2.2); done)); clear hK K'; clear hHeld; have hHeld := hHeld2; clear hHeld2; try simp only [Act.put, List.setIfInBounds_toArray, List.set_cons_zero, List.set_cons_succ]
                                refine wpAnyH_done (by kernel_rfl) ?_ _; refine NoPanic.normal ?_
                                go_wp2_with fail
                                go_meet
                                exact ⟨rfl, (putB2 hk3 ((hv.out.take hq.out).drop 0) hM1.out hM2.out).perm (List.Perm.swap _ _ _)⟩
                            · go_simp; (replace hq := Lib.hid (hq.out.alloc #[.string (str s)] 9); (first | rw [hsz5.out] at hq | skip); have dk := (hcA.out _ hq.out.bel).1; have fk := (hcA.out _ hq.out.bel).2.1)
                              (try dsimp only); refine hK.out _ _ ?_ (fun hHeld2 => ?_); (focus ((try dsimp only); (first | exact (hcA.out _ hq.out.bel).2.2 | exact (hcA.out _ hq.out.drew.bel).2.2 | exact (World.cell?_setCell_far _ _ _ _ hneq.out).trans (hcA.out _ hq.out.bel).2.2); done)); clear hK K'; clear hHeld; have hHeld := hHeld2; clear hHeld2; try simp only [Act.put, List.setIfInBounds_toArray, List.set_cons_zero, List.set_cons_succ]
                              refine wpAnyH_ready (rs := [6]) (by kernel_rfl) (by simp) ?_; refine (AllReadyH.cons (o := _) rfl (fun K' hK => ?_) AllReadyH.nil)
                              go_simp; (skip)
                              (try dsimp only); refine hK.out _ _ ?_ (fun hHeld2 => ?_); (focus ((try dsimp only); (first | exact (hcA.out _ hq.out.bel).2.2 | exact (hcA.out _ hq.out.drew.bel).2.2 | exact (World.cell?_setCell_far _ _ _ _ hneq.out).trans (hcA.out _ hq.out.bel).2.2); done)); clear hK K'; clear hHeld; have hHeld := hHeld2; clear hHeld2; try simp only [Act.put, List.setIfInBounds_toArray, List.set_cons_zero, List.set_cons_succ]
                              refine wpAnyH_ready (rs := [7]) (by kernel_rfl) (by simp) ?_; refine (AllReadyH.cons (o := _) rfl (fun K' hK => ?_) AllReadyH.nil)
                              (refine step_append_sl_hpk rfl _ _ rfl Try.underlying51 strInfo rfl (by decide) (by decide) hq.out.drew 1 rfl rfl rfl (hSl.out _ hq.out.drew.bel) hl1.out (nmC_one _) hb7.out hk7.out hz7.out ?_; intro v5 w5 h5 hv5; replace hq := Lib.hid h5; clear h5; obtain ⟨ad5, cp5, rfl⟩ := hv5; have dk := (hcA.out _ hq.out.bel).1; have fk := (hcA.out _ hq.out.bel).2.1)
                              (try dsimp only); refine hK.out _ _ ?_ (fun hHeld2 => ?_); (focus ((try dsimp only); (first | exact (hcA.out _ hq.out.bel).2.2 | exact (hcA.out _ hq.out.drew.bel).2.2 | exact (World.cell?_setCell_far _ _ _ _ hneq.out).trans (hcA.out _ hq.out.bel).2.2); done)); clear hK K'; clear hHeld; have hHeld := hHeld2; clear hHeld2; try simp only [Act.put, List.setIfInBounds_toArray, List.set_cons_zero, List.set_cons_succ]
                              refine wpAnyH_ready (rs := [10]) (by kernel_rfl) (by simp) ?_; refine (AllReadyH.cons (o := _) rfl (fun K' hK => ?_) AllReadyH.nil)
                              (refine step_append_sl_hpk rfl _ _ rfl Try.underlying51 strInfo rfl (by decide) (by decide) hq.out 1 rfl rfl rfl (box_sl hq.out (i := 0) rfl) rfl hon.out hb10.out hk10.out hz10.out ?_; intro v6 w6 h6 hv6; replace hq := Lib.hid h6; clear h6; obtain ⟨ad6, cp6, rfl⟩ := hv6; have dk := (hcA.out _ hq.out.bel).1; have fk := (hcA.out _ hq.out.bel).2.1)
                              (try dsimp only); refine hK.out _ _ ?_ (fun hHeld2 => ?_); (focus ((try dsimp only); (first | exact (hcA.out _ hq.out.bel).2.2 | exact (hcA.out _ hq.out.drew.bel).2.2 | exact (World.cell?_setCell_far _ _ _ _ hneq.out).trans (hcA.out _ hq.out.bel).2.2); done)); clear hK K'; clear hHeld; have hHeld := hHeld2; clear hHeld2; try simp only [Act.put, List.setIfInBounds_toArray, List.set_cons_zero, List.set_cons_succ]
                              (refine take_t (i := 11) (d := 192) (oi := _) (v := ?_) rfl rfl (by kernel_rfl) (by kernel_rfl) (by kernel_rfl) (by rfl) ?_ (by assumption) ?_; rotate_left; (focus (intro w0 hSw; (try dsimp only at hSw); go_simp; (try with_reducible rfl); done)); try simp only [Act.put, List.setIfInBounds_toArray, List.set_cons_zero, List.set_cons_succ])
                              refine wpAnyH_ready (rs := [12]) (by kernel_rfl) (by simp) ?_; refine (AllReadyH.cons (o := _) rfl (fun K' hK => ?_) AllReadyH.nil)
                              go_simp; (skip)
                              (try dsimp only); refine hK.out _ _ ?_ (fun hHeld2 => ?_); (focus ((try dsimp only); (first | exact (hcA.out _ hq.out.bel).2.2 | exact (hcA.out _ hq.out.drew.bel).2.2 | exact (World.cell?_setCell_far _ _ _ _ hneq.out).trans (hcA.out _ hq.out.bel).2.2); done)); clear hK K'; clear hHeld; have hHeld := hHeld2; clear hHeld2; try simp only [Act.put, List.setIfInBounds_toArray, List.set_cons_zero, List.set_cons_succ]
                              refine wpAnyH_done (by kernel_rfl) ?_ _; refine NoPanic.normal ?_
                              go_wp2_with fail
                              go_meet
                              exact ⟨rfl, (putB2 hk3 ((hv.out.take hq.out).drop 0) hM1.out hM2.out).perm (List.Perm.swap _ _ _)⟩
                          · go_simp; (skip)
                            (try dsimp only); refine hK.out _ _ ?_ (fun hHeld2 => ?_); (focus ((try dsimp only); (first | exact (hcA.out _ hq.out.bel).2.2 | exact (hcA.out _ hq.out.drew.bel).2.2 | exact (World.cell?_setCell_far _ _ _ _ hneq.out).trans (hcA.out _ hq.out.bel).2.2); done)); clear hK K'; clear hHeld; have hHeld := hHeld2; clear hHeld2; try simp only [Act.put, List.setIfInBounds_toArray, List.set_cons_zero, List.set_cons_succ]
                            refine wpAnyH_ready (rs := [2, 9]) (by kernel_rfl) (by simp) ?_; refine (AllReadyH.cons (o := _) rfl (fun K' hK => ?_) (AllReadyH.cons (o := _) rfl (fun K' hK => ?_) AllReadyH.nil))
                            · go_simp; (replace hq := Lib.hid (hq.out.rowLit #[] 9 1 0 (by decide) rfl); (first | rw [hsz5.out] at hq | skip); have dk := (hcA.out _ hq.out.bel).1; have fk := (hcA.out _ hq.out.bel).2.1)
                              (try dsimp only); refine hK.out _ _ ?_ (fun hHeld2 => ?_); (focus ((try dsimp only); (first | exact (hcA.out _ hq.out.bel).2.2 | exact (hcA.out _ hq.out.drew.bel).2.2 | exact (World.cell?_setCell_far _ _ _ _ hneq.out).trans (hcA.out _ hq.out.bel).2.2); done)); clear hK K'; clear hHeld; have hHeld := hHeld2; clear hHeld2; try simp only [Act.put, List.setIfInBounds_toArray, List.set_cons_zero, List.set_cons_succ]
                              refine wpAnyH_ready (rs := [7, 9]) (by kernel_rfl) (by simp) ?_; refine (AllReadyH.cons (o := _) rfl (fun K' hK => ?_) (AllReadyH.cons (o := _) rfl (fun K' hK => ?_) AllReadyH.nil))
                              · (refine step_append_sl_hpk rfl _ _ rfl Try.underlying51 strInfo rfl (by decide) (by decide) hq.out.drew 0 rfl rfl rfl (hSl.out _ hq.out.drew.bel) hl1.out (nmC_one _) hb7.out hk7.out hz7.out ?_; intro v5 w5 h5 hv5; replace hq := Lib.hid h5; clear h5; obtain ⟨ad5, cp5, rfl⟩ := hv5; have dk := (hcA.out _ hq.out.bel).1; have fk := (hcA.out _ hq.out.bel).2.1)
                                (try dsimp only); refine hK.out _ _ ?_ (fun hHeld2 => ?_); (focus ((try dsimp only); (first | exact (hcA.out _ hq.out.bel).2.2 | exact (hcA.out _ hq.out.drew.bel).2.2 | exact (World.cell?_setCell_far _ _ _ _ hneq.out).trans (hcA.out _ hq.out.bel).2.2); done)); clear hK K'; clear hHeld; have hHeld := hHeld2; clear hHeld2; try simp only [Act.put, List.setIfInBounds_toArray, List.set_cons_zero, List.set_cons_succ]
                                refine wpAnyH_ready (rs := [9]) (by kernel_rfl) (by simp) ?_; refine (AllReadyH.cons (o := _) rfl (fun K' hK => ?_) AllReadyH.nil)
                                go_simp; (replace hq := Lib.hid (hq.out.alloc #[.string (str s)] 9); (first | rw [hsz5.out] at hq | skip); have dk := (hcA.out _ hq.out.bel).1; have fk := (hcA.out _ hq.out.bel).2.1)
                                (try dsimp only); refine hK.out _ _ ?_ (fun hHeld2 => ?_); (focus ((try dsimp only); (first | exact (hcA.out _ hq.out.bel).2.2 | exact (hcA.out _ hq.out.drew.bel).2.2 | exact (World.cell?_setCell_far _ _ _ _ hneq.out).trans (hcA.out _ hq.out.bel).2.2); done)); clear hK K'; clear hHeld; have hHeld := hHeld2; clear hHeld2; try simp only [Act.put, List.setIfInBounds_toArray, List.set_cons_zero, List.set_cons_succ]
                                refine wpAnyH_ready (rs := [10]) (by kernel_rfl) (by simp) ?_; refine (AllReadyH.cons (o := _) rfl (fun K' hK => ?_) AllReadyH.nil)
                                (refine step_append_sl_hpk rfl _ _ rfl Try.underlying51 strInfo rfl (by decide) (by decide) hq.out 1 rfl rfl rfl (box_sl hq.out (i := 0) rfl) rfl hon.out hb10.out hk10.out hz10.out ?_; intro v6 w6 h6 hv6; replace hq := Lib.hid h6; clear h6; obtain ⟨ad6, cp6, rfl⟩ := hv6; have dk := (hcA.out _ hq.out.bel).1; have fk := (hcA.out _ hq.out.bel).2.1)
                                (try dsimp only); refine hK.out _ _ ?_ (fun hHeld2 => ?_); (focus ((try dsimp only); (first | exact (hcA.out _ hq.out.bel).2.2 | exact (hcA.out _ hq.out.drew.bel).2.2 | exact (World.cell?_setCell_far _ _ _ _ hneq.out).trans (hcA.out _ hq.out.bel).2.2); done)); clear hK K'; clear hHeld; have hHeld := hHeld2; clear hHeld2; try simp only [Act.put, List.setIfInBounds_toArray, List.set_cons_zero, List.set_cons_succ]
                                (refine take_t (i := 11) (d := 192) (oi := _) (v := ?_) rfl rfl (by kernel_rfl) (by kernel_rfl) (by kernel_rfl) (by rfl) ?_ (by assumption) ?_; rotate_left; (focus (intro w0 hSw; (try dsimp only at hSw); go_simp; (try with_reducible rfl); done)); try simp only [Act.put, List.setIfInBounds_toArray, List.set_cons_zero, List.set_cons_succ])
                                refine wpAnyH_ready (rs := [12]) (by kernel_rfl) (by simp) ?_; refine (AllReadyH.cons (o := _) rfl (fun K' hK => ?_) AllReadyH.nil)
                                go_simp; (skip)
                                (try dsimp only); refine hK.out _ _ ?_ (fun hHeld2 => ?_); (focus ((try dsimp only); (first | exact (hcA.out _ hq.out.bel).2.2 | exact (hcA.out _ hq.out.drew.bel).2.2 | exact (World.cell?_setCell_far _ _ _ _ hneq.out).trans (hcA.out _ hq.out.bel).2.2); done)); clear hK K'; clear hHeld; have hHeld := hHeld2; clear hHeld2; try simp only [Act.put, List.setIfInBounds_toArray, List.set_cons_zero, List.set_cons_succ]
                                refine wpAnyH_done (by kernel_rfl) ?_ _; refine NoPanic.normal ?_
                                go_wp2_with fail
                                go_meet
                                exact ⟨rfl, (putB2 hk3 ((hv.out.take hq.out).drop 0) hM1.out hM2.out).perm (List.Perm.swap _ _ _)⟩
                              · go_simp; (replace hq := Lib.hid (hq.out.alloc #[.string (str s)] 9); (first | rw [hsz5.out] at hq | skip); have dk := (hcA.out _ hq.out.bel).1; have fk := (hcA.out _ hq.out.bel).2.1)
                                (try dsimp only); refine hK.out _ _ ?_ (fun hHeld2 => ?_); (focus ((try dsimp only); (first | exact (hcA.out _ hq.out.bel).2.2 | exact (hcA.out _ hq.out.drew.bel).2.2 | exact (World.cell?_setCell_far _ _ _ _ hneq.out).trans (hcA.out _ hq.out.bel).2.2); done)); clear hK K'; clear hHeld; have hHeld := hHeld2; clear hHeld2; try simp only [Act.put, List.setIfInBounds_toArray, List.set_cons_zero, List.set_cons_succ]
                                refine wpAnyH_ready (rs := [7]) (by kernel_rfl) (by simp) ?_; refine (AllReadyH.cons (o := _) rfl (fun K' hK => ?_) AllReadyH.nil)
                                (refine step_append_sl_hpk rfl _ _ rfl Try.underlying51 strInfo rfl (by decide) (by decide) hq.out.drew 1 rfl rfl rfl (hSl.out _ hq.out.drew.bel) hl1.out (nmC_one _) hb7.out hk7.out hz7.out ?_; intro v5 w5 h5 hv5; replace hq := Lib.hid h5; clear h5; obtain ⟨ad5, cp5, rfl⟩ := hv5; have dk := (hcA.out _ hq.out.bel).1; have fk := (hcA.out _ hq.out.bel).2.1)
                                (try dsimp only); refine hK.out _ _ ?_ (fun hHeld2 => ?_); (focus ((try dsimp only); (first | exact (hcA.out _ hq.out.bel).2.2 | exact (hcA.out _ hq.out.drew.bel).2.2 | exact (World.cell?_setCell_far _ _ _ _ hneq.out).trans (hcA.out _ hq.out.bel).2.2); done)); clear hK K'; clear hHeld; have hHeld := hHeld2; clear hHeld2; try simp only [Act.put, List.setIfInBounds_toArray, List.set_cons_zero, List.set_cons_succ]
                                refine wpAnyH_ready (rs := [10]) (by kernel_rfl) (by simp) ?_; refine (AllReadyH.cons (o := _) rfl (fun K' hK => ?_) AllReadyH.nil)
                                (refine step_append_sl_hpk rfl _ _ rfl Try.underlying51 strInfo rfl (by decide) (by decide) hq.out 1 rfl rfl rfl (box_sl hq.out (i := 0) rfl) rfl hon.out hb10.out hk10.out hz10.out ?_; intro v6 w6 h6 hv6; replace hq := Lib.hid h6; clear h6; obtain ⟨ad6, cp6, rfl⟩ := hv6; have dk := (hcA.out _ hq.out.bel).1; have fk := (hcA.out _ hq.out.bel).2.1)
                                (try dsimp only); refine hK.out _ _ ?_ (fun hHeld2 => ?_); (focus ((try dsimp only); (first | exact (hcA.out _ hq.out.bel).2.2 | exact (hcA.out _ hq.out.drew.bel).2.2 | exact (World.cell?_setCell_far _ _ _ _ hneq.out).trans (hcA.out _ hq.out.bel).2.2); done)); clear hK K'; clear hHeld; have hHeld := hHeld2; clear hHeld2; try simp only [Act.put, List.setIfInBounds_toArray, List.set_cons_zero, List.set_cons_succ]
                                (refine take_t (i := 11) (d := 192) (oi := _) (v := ?_) rfl rfl (by kernel_rfl) (by kernel_rfl) (by kernel_rfl) (by rfl) ?_ (by assumption) ?_; rotate_left; (focus (intro w0 hSw; (try dsimp only at hSw); go_simp; (try with_reducible rfl); done)); try simp only [Act.put, List.setIfInBounds_toArray, List.set_cons_zero, List.set_cons_succ])
                                refine wpAnyH_ready (rs := [12]) (by kernel_rfl) (by simp) ?_; refine (AllReadyH.cons (o := _) rfl (fun K' hK => ?_) AllReadyH.nil)
                                go_simp; (skip)
                                (try dsimp only); refine hK.out _ _ ?_ (fun hHeld2 => ?_); (focus ((try dsimp only); (first | exact (hcA.out _ hq.out.bel).2.2 | exact (hcA.out _ hq.out.drew.bel).2.2 | exact (World.cell?_setCell_far _ _ _ _ hneq.out).trans (hcA.out _ hq.out.bel).2.2); done)); clear hK K'; clear hHeld; have hHeld := hHeld2; clear hHeld2; try simp only [Act.put, List.setIfInBounds_toArray, List.set_cons_zero, List.set_cons_succ]
                                refine wpAnyH_done (by kernel_rfl) ?_ _; refine NoPanic.normal ?_
                                go_wp2_with fail
                                go_meet
                                exact ⟨rfl, (putB2 hk3 ((hv.out.take hq.out).drop 0) hM1.out hM2.out).perm (List.Perm.swap _ _ _)⟩
                            · go_simp; (replace hq := Lib.hid (hq.out.alloc #[.string (str s)] 9); (first | rw [hsz5.out] at hq | skip); have dk := (hcA.out _ hq.out.bel).1; have fk := (hcA.out _ hq.out.bel).2.1)
                              (try dsimp only); refine hK.out _ _ ?_ (fun hHeld2 => ?_); (focus ((try dsimp only); (first | exact (hcA.out _ hq.out.bel).2.2 | exact (hcA.out _ hq.out.drew.bel).2.2 | exact (World.cell?_setCell_far _ _ _ _ hneq.out).trans (hcA.out _ hq.out.bel).2.2); done)); clear hK K'; clear hHeld; have hHeld := hHeld2; clear hHeld2; try simp only [Act.put, List.setIfInBounds_toArray, List.set_cons_zero, List.set_cons_succ]
                              refine wpAnyH_ready (rs := [2]) (by kernel_rfl) (by simp) ?_; refine (AllReadyH.cons (o := _) rfl (fun K' hK => ?_) AllReadyH.nil)
                              go_simp; (replace hq := Lib.hid (hq.out.rowLit #[] 9 1 0 (by decide) rfl); (first | rw [hsz5.out] at hq | skip); have dk := (hcA.out _ hq.out.bel).1; have fk := (hcA.out _ hq.out.bel).2.1)
                              (try dsimp only); refine hK.out _ _ ?_ (fun hHeld2 => ?_); (focus ((try dsimp only); (first | exact (hcA.out _ hq.out.bel).2.2 | exact (hcA.out _ hq.out.drew.bel).2.2 | exact (World.cell?_setCell_far _ _ _ _ hneq.out).trans (hcA.out _ hq.out.bel).2.2); done)); clear hK K'; clear hHeld; have hHeld := hHeld2; clear hHeld2; try simp only [Act.put, List.setIfInBounds_toArray, List.set_cons_zero, List.set_cons_succ]
                              refine wpAnyH_ready (rs := [7]) (by kernel_rfl) (by simp) ?_; refine (AllReadyH.cons (o := _) rfl (fun K' hK => ?_) AllReadyH.nil)
                              (refine step_append_sl_hpk rfl _ _ rfl Try.underlying51 strInfo rfl (by decide) (by decide) hq.out.drew 0 rfl rfl rfl (hSl.out _ hq.out.drew.bel) hl1.out (nmC_one _) hb7.out hk7.out hz7.out ?_; intro v5 w5 h5 hv5; replace hq := Lib.hid h5; clear h5; obtain ⟨ad5, cp5, rfl⟩ := hv5; have dk := (hcA.out _ hq.out.bel).1; have fk := (hcA.out _ hq.out.bel).2.1)
                              (try dsimp only); refine hK.out _ _ ?_ (fun hHeld2 => ?_); (focus ((try dsimp only); (first | exact (hcA.out _ hq.out.bel).2.2 | exact (hcA.out _ hq.out.drew.bel).2.2 | exact (World.cell?_setCell_far _ _ _ _ hneq.out).trans (hcA.out _ hq.out.bel).2.2); done)); clear hK K'; clear hHeld; have hHeld := hHeld2; clear hHeld2; try simp only [Act.put, List.setIfInBounds_toArray, List.set_cons_zero, List.set_cons_succ]
                              refine wpAnyH_ready (rs := [10]) (by kernel_rfl) (by simp) ?_; refine (AllReadyH.cons (o := _) rfl (fun K' hK => ?_) AllReadyH.nil)
                              (refine step_append_sl_hpk rfl _ _ rfl Try.underlying51 strInfo rfl (by decide) (by decide) hq.out 0 rfl rfl rfl (box_sl hq.out (i := 1) rfl) rfl hon.out hb10.out hk10.out hz10.out ?_; intro v6 w6 h6 hv6; replace hq := Lib.hid h6; clear h6; obtain ⟨ad6, cp6, rfl⟩ := hv6; have dk := (hcA.out _ hq.out.bel).1; have fk := (hcA.out _ hq.out.bel).2.1)
                              (try dsimp only); refine hK.out _ _ ?_ (fun hHeld2 => ?_); (focus ((try dsimp only); (first | exact (hcA.out _ hq.out.bel).2.2 | exact (hcA.out _ hq.out.drew.bel).2.2 | exact (World.cell?_setCell_far _ _ _ _ hneq.out).trans (hcA.out _ hq.out.bel).2.2); done)); clear hK K'; clear hHeld; have hHeld := hHeld2; clear hHeld2; try simp only [Act.put, List.setIfInBounds_toArray, List.set_cons_zero, List.set_cons_succ]
                              (refine take_t (i := 11) (d := 192) (oi := _) (v := ?_) rfl rfl (by kernel_rfl) (by kernel_rfl) (by kernel_rfl) (by rfl) ?_ (by assumption) ?_; rotate_left; (focus (intro w0 hSw; (try dsimp only at hSw); go_simp; (try with_reducible rfl); done)); try simp only [Act.put, List.setIfInBounds_toArray, List.set_cons_zero, List.set_cons_succ])
                              refine wpAnyH_ready (rs := [12]) (by kernel_rfl) (by simp) ?_; refine (AllReadyH.cons (o := _) rfl (fun K' hK => ?_) AllReadyH.nil)
                              go_simp; (skip)
                              (try dsimp only); refine hK.out _ _ ?_ (fun hHeld2 => ?_); (focus ((try dsimp only); (first | exact (hcA.out _ hq.out.bel).2.2 | exact (hcA.out _ hq.out.drew.bel).2.2 | exact (World.cell?_setCell_far _ _ _ _ hneq.out).trans (hcA.out _ hq.out.bel).2.2); done)); clear hK K'; clear hHeld; have hHeld := hHeld2; clear hHeld2; try simp only [Act.put, List.setIfInBounds_toArray, List.set_cons_zero, List.set_cons_succ]
                              refine wpAnyH_done (by kernel_rfl) ?_ _; refine NoPanic.normal ?_
                              go_wp2_with fail
                              go_meet
                              exact ⟨rfl, (putB2 hk3 ((hv.out.take hq.out).drop 1) hM1.out hM2.out).perm (List.Perm.swap _ _ _)⟩
                          · go_simp; (replace hq := Lib.hid (hq.out.alloc #[.string (str s)] 9); (first | rw [hsz5.out] at hq | skip); have dk := (hcA.out _ hq.out.bel).1; have fk := (hcA.out _ hq.out.bel).2.1)
                            (try dsimp only); refine hK.out _ _ ?_ (fun hHeld2 => ?_); (focus ((try dsimp only); (first | exact (hcA.out _ hq.out.bel).2.2 | exact (hcA.out _ hq.out.drew.bel).2.2 | exact (World.cell?_setCell_far _ _ _ _ hneq.out).trans (hcA.out _ hq.out.bel).2.2); done)); clear hK K'; clear hHeld; have hHeld := hHeld2; clear hHeld2; try simp only [Act.put, List.setIfInBounds_toArray, List.set_cons_zero, List.set_cons_succ]
                            refine wpAnyH_ready (rs := [2, 6]) (by kernel_rfl) (by simp) ?_; refine (AllReadyH.cons (o := _) rfl (fun K' hK => ?_) (AllReadyH.cons (o := _) rfl (fun K' hK => ?_) AllReadyH.nil))
                            · go_simp; (replace hq := Lib.hid (hq.out.rowLit #[] 9 1 0 (by decide) rfl); (first | rw [hsz5.out] at hq | skip); have dk := (hcA.out _ hq.out.bel).1; have fk := (hcA.out _ hq.out.bel).2.1)
                              (try dsimp only); refine hK.out _ _ ?_ (fun hHeld2 => ?_); (focus ((try dsimp only); (first | exact (hcA.out _ hq.out.bel).2.2 | exact (hcA.out _ hq.out.drew.bel).2.2 | exact (World.cell?_setCell_far _ _ _ _ hneq.out).trans (hcA.out _ hq.out.bel).2.2); done)); clear hK K'; clear hHeld; have hHeld := hHeld2; clear hHeld2; try simp only [Act.put, List.setIfInBounds_toArray, List.set_cons_zero, List.set_cons_succ]
                              refine wpAnyH_ready (rs := [6]) (by kernel_rfl) (by simp) ?_; refine (AllReadyH.cons (o := _) rfl (fun K' hK => ?_) AllReadyH.nil)
                              go_simp; (skip)
                              (try dsimp only); refine hK.out _ _ ?_ (fun hHeld2 => ?_); (focus ((try dsimp only); (first | exact (hcA.out _ hq.out.bel).2.2 | exact (hcA.out _ hq.out.drew.bel).2.2 | exact (World.cell?_setCell_far _ _ _ _ hneq.out).trans (hcA.out _ hq.out.bel).2.2); done)); clear hK K'; clear hHeld; have hHeld := hHeld2; clear hHeld2; try simp only [Act.put, List.setIfInBounds_toArray, List.set_cons_zero, List.set_cons_succ]
                              refine wpAnyH_ready (rs := [7]) (by kernel_rfl) (by simp) ?_; refine (AllReadyH.cons (o := _) rfl (fun K' hK => ?_) AllReadyH.nil)
                              (refine step_append_sl_hpk rfl _ _ rfl Try.underlying51 strInfo rfl (by decide) (by decide) hq.out.drew 0 rfl rfl rfl (hSl.out _ hq.out.drew.bel) hl1.out (nmC_one _) hb7.out hk7.out hz7.out ?_; intro v5 w5 h5 hv5; replace hq := Lib.hid h5; clear h5; obtain ⟨ad5, cp5, rfl⟩ := hv5; have dk := (hcA.out _ hq.out.bel).1; have fk := (hcA.out _ hq.out.bel).2.1)
                              (try dsimp only); refine hK.out _ _ ?_ (fun hHeld2 => ?_); (focus ((try dsimp only); (first | exact (hcA.out _ hq.out.bel).2.2 | exact (hcA.out _ hq.out.drew.bel).2.2 | exact (World.cell?_setCell_far _ _ _ _ hneq.out).trans (hcA.out _ hq.out.bel).2.2); done)); clear hK K'; clear hHeld; have hHeld := hHeld2; clear hHeld2; try simp only [Act.put, List.setIfInBounds_toArray, List.set_cons_zero, List.set_cons_succ]
                              refine wpAnyH_ready (rs := [10]) (by kernel_rfl) (by simp) ?_; refine (AllReadyH.cons (o := _) rfl (fun K' hK => ?_) AllReadyH.nil)
                              (refine step_append_sl_hpk rfl _ _ rfl Try.underlying51 strInfo rfl (by decide) (by decide) hq.out 0 rfl rfl rfl (box_sl hq.out (i := 1) rfl) rfl hon.out hb10.out hk10.out hz10.out ?_; intro v6 w6 h6 hv6; replace hq := Lib.hid h6; clear h6; obtain ⟨ad6, cp6, rfl⟩ := hv6; have dk := (hcA.out _ hq.out.bel).1; have fk := (hcA.out _ hq.out.bel).2.1)
                              (try dsimp only); refine hK.out _ _ ?_ (fun hHeld2 => ?_); (focus ((try dsimp only); (first | exact (hcA.out _ hq.out.bel).2.2 | exact (hcA.out _ hq.out.drew.bel).2.2 | exact (World.cell?_setCell_far _ _ _ _ hneq.out).trans (hcA.out _ hq.out.bel).2.2); done)); clear hK K'; clear hHeld; have hHeld := hHeld2; clear hHeld2; try simp only [Act.put, List.setIfInBounds_toArray, List.set_cons_zero, List.set_cons_succ]
                              (refine take_t (i := 11) (d := 192) (oi := _) (v := ?_) rfl rfl (by kernel_rfl) (by kernel_rfl) (by kernel_rfl) (by rfl) ?_ (by assumption) ?_; rotate_left; (focus (intro w0 hSw; (try dsimp only at hSw); go_simp; (try with_reducible rfl); done)); try simp only [Act.put, List.setIfInBounds_toArray, List.set_cons_zero, List.set_cons_succ])
                              refine wpAnyH_ready (rs := [12]) (by kernel_rfl) (by simp) ?_; refine (AllReadyH.cons (o := _) rfl (fun K' hK => ?_) AllReadyH.nil)
                              go_simp; (skip)
                              (try dsimp only); refine hK.out _ _ ?_ (fun hHeld2 => ?_); (focus ((try dsimp only); (first | exact (hcA.out _ hq.out.bel).2.2 | exact (hcA.out _ hq.out.drew.bel).2.2 | exact (World.cell?_setCell_far _ _ _ _ hneq.out).trans (hcA.out _ hq.out.bel).2.2); done)); clear hK K'; clear hHeld; have hHeld := hHeld2; clear hHeld2; try simp only [Act.put, List.setIfInBounds_toArray, List.set_cons_zero, List.set_cons_succ]
                              refine wpAnyH_done (by kernel_rfl) ?_ _; refine NoPanic.normal ?_
                              go_wp2_with fail
                              go_meet
                              exact ⟨rfl, (putB2 hk3 ((hv.out.take hq.out).drop 1) hM1.out hM2.out).perm (List.Perm.swap _ _ _)⟩
                            · go_simp; (skip)
                              (try dsimp only); refine hK.out _ _ ?_ (fun hHeld2 => ?_); (focus ((try dsimp only); (first | exact (hcA.out _ hq.out.bel).2.2 | exact (hcA.out _ hq.out.drew.bel).2.2 | exact (World.cell?_setCell_far _ _ _ _ hneq.out).trans (hcA.out _ hq.out.bel).2.2); done)); clear hK K'; clear hHeld; have hHeld := hHeld2; clear hHeld2; try simp only [Act.put, List.setIfInBounds_toArray, List.set_cons_zero, List.set_cons_succ]
                              refine wpAnyH_ready (rs := [2]) (by kernel_rfl) (by simp) ?_; refine (AllReadyH.cons (o := _) rfl (fun K' hK => ?_) AllReadyH.nil)
                              go_simp; (replace hq := Lib.hid (hq.out.rowLit #[] 9 1 0 (by decide) rfl); (first | rw [hsz5.out] at hq | skip); have dk := (hcA.out _ hq.out.bel).1; have fk := (hcA.out _ hq.out.bel).2.1)
                              (try dsimp only); refine hK.out _ _ ?_ (fun hHeld2 => ?_); (focus ((try dsimp only); (first | exact (hcA.out _ hq.out.bel).2.2 | exact (hcA.out _ hq.out.drew.bel).2.2 | exact (World.cell?_setCell_far _ _ _ _ hneq.out).trans (hcA.out _ hq.out.bel).2.2); done)); clear hK K'; clear hHeld; have hHeld := hHeld2; clear hHeld2; try simp only [Act.put, List.setIfInBounds_toArray, List.set_cons_zero, List.set_cons_succ]
                              refine wpAnyH_ready (rs := [7]) (by kernel_rfl) (by simp) ?_; refine (AllReadyH.cons (o := _) rfl (fun K' hK => ?_) AllReadyH.nil)
                              (refine step_append_sl_hpk rfl _ _ rfl Try.underlying51 strInfo rfl (by decide) (by decide) hq.out.drew 0 rfl rfl rfl (hSl.out _ hq.out.drew.bel) hl1.out (nmC_one _) hb7.out hk7.out hz7.out ?_; intro v5 w5 h5 hv5; replace hq := Lib.hid h5; clear h5; obtain ⟨ad5, cp5, rfl⟩ := hv5; have dk := (hcA.out _ hq.out.bel).1; have fk := (hcA.out _ hq.out.bel).2.1)
                              (try dsimp only); refine hK.out _ _ ?_ (fun hHeld2 => ?_); (focus ((try dsimp only); (first | exact (hcA.out _ hq.out.bel).2.2 | exact (hcA.out _ hq.out.drew.bel).2.2 | exact (World.cell?_setCell_far _ _ _ _ hneq.out).trans (hcA.out _ hq.out.bel).2.2); done)); clear hK K'; clear hHeld; have hHeld := hHeld2; clear hHeld2; try simp only [Act.put, List.setIfInBounds_toArray, List.set_cons_zero, List.set_cons_succ]
                              refine wpAnyH_ready (rs := [10]) (by kernel_rfl) (by simp) ?_; refine (AllReadyH.cons (o := _) rfl (fun K' hK => ?_) AllReadyH.nil)
                              (refine step_append_sl_hpk rfl _ _ rfl Try.underlying51 strInfo rfl (by decide) (by decide) hq.out 0 rfl rfl rfl (box_sl hq.out (i := 1) rfl) rfl hon.out hb10.out hk10.out hz10.out ?_; intro v6 w6 h6 hv6; replace hq := Lib.hid h6; clear h6; obtain ⟨ad6, cp6, rfl⟩ := hv6; have dk := (hcA.out _ hq.out.bel).1; have fk := (hcA.out _ hq.out.bel).2.1)
                              (try dsimp only); refine hK.out _ _ ?_ (fun hHeld2 => ?_); (focus ((try dsimp only); (first | exact (hcA.out _ hq.out.bel).2.2 | exact (hcA.out _ hq.out.drew.bel).2.2 | exact (World.cell?_setCell_far _ _ _ _ hneq.out).trans (hcA.out _ hq.out.bel).2.2); done)); clear hK K'; clear hHeld; have hHeld := hHeld2; clear hHeld2; try simp only [Act.put, List.setIfInBounds_toArray, List.set_cons_zero, List.set_cons_succ]
                              (refine take_t (i := 11) (d := 192) (oi := _) (v := ?_) rfl rfl (by kernel_rfl) (by kernel_rfl) (by kernel_rfl) (by rfl) ?_ (by assumption) ?_; rotate_left; (focus (intro w0 hSw; (try dsimp only at hSw); go_simp; (try with_reducible rfl); done)); try simp only [Act.put, List.setIfInBounds_toArray, List.set_cons_zero, List.set_cons_succ])
                              refine wpAnyH_ready (rs := [12]) (by kernel_rfl) (by simp) ?_; refine (AllReadyH.cons (o := _) rfl (fun K' hK => ?_) AllReadyH.nil)
                              go_simp; (skip)
                              (try dsimp only); refine hK.out _ _ ?_ (fun hHeld2 => ?_); (focus ((try dsimp only); (first | exact (hcA.out _ hq.out.bel).2.2 | exact (hcA.out _ hq.out.drew.bel).2.2 | exact (World.cell?_setCell_far _ _ _ _ hneq.out).trans (hcA.out _ hq.out.bel).2.2); done)); clear hK K'; clear hHeld; have hHeld := hHeld2; clear hHeld2; try simp only [Act.put, List.setIfInBounds_toArray, List.set_cons_zero, List.set_cons_succ]
                              refine wpAnyH_done (by kernel_rfl) ?_ _; refine NoPanic.normal ?_
                              go_wp2_with fail
                              go_meet
                              exact ⟨rfl, (putB2 hk3 ((hv.out.take hq.out).drop 1) hM1.out hM2.out).perm (List.Perm.swap _ _ _)⟩
                        case rest =>
                          obtain ⟨rfl, hp⟩ := hcut
                          replace hp := Lib.hid hp
                          have e0 := (hp9.out _ _ hp.out rfl).1
                          go_wp2_with (go_at_call 26; (with_reducible refine (hname.out _ _ hp.out rfl).mono ?_); rintro e w9 ⟨rfl, rfl⟩)
                          go_roundg g
                          case rel => exact ⟨j + 1, _, by go_num, by omega, hp.out.drop 0, hOk2.out⟩
                          case measure => omega
            · skip
              have hor : K < 0 ∨ 3 ≤ K := by omega
              have hfind : ∀ W, Calls Try.prog 24 #[.pointer (some ⟨d, 0, none⟩), .int .i64 K, .string (str s)] W fun e w' => e = .returned (.tuple #[.int .i64 0, .bool false]) ∧ w' = W := fun W => find_none d W K hor s
              have hlen47 : s.length ≤ 140737488355328 := by have := hsl.out; omega
              have hgive : ∀ W, Calls Try.prog 22 #[.pointer (some ⟨d, 0, none⟩), .int .i64 K, .string (str s)] W fun e w' => e = .returned (.tuple #[.int .i64 0, .int .i64 1]) ∧ Below W.heap.size W w' := fun W => give_bad d K s hlen47 (Or.inl hor) W
              generalize mayN s = B at hlm hcm
              have tB : (B != B) = false := by cases B <;> rfl
              replace hfind := Lib.hid hfind; replace hgive := Lib.hid hgive; replace hlm := Lib.hid hlm; replace hcm := Lib.hid hcm
              clear hin hlen47
              rcases hor with hK | hK
              · skip
                have hK1 : ¬ 0 ≤ K := by omega
                go_upto_block 4 with fail
                clear hcut hz hz1 hz2 hz3 e1 e2 e0
                go_wp2_with fail
                go_loopg [15, 16] 0 (fun gt s15 s16 wx => s15 = .int .i64 (-1) ∧ s16 = .int .i64 0 ∧ Hp w [] [.box q #[.int .i64 K, .string xs, .int .i64 xn] 56, arT a L, nmT d L] wx)
                case atStart => exact ⟨rfl, rfl, hpb.out⟩
                case round =>
                  clear hpb
                  obtain ⟨rfl, rfl, hp⟩ := hrel
                  replace hp := Lib.hid hp
                  have e0 : wr.cell? ⟨q, 0, none⟩ = some (.int .i64 K) := hp.out.cell (i := 0) rfl 0
                  go_wp2_with (first | (go_at_call 24; (with_reducible refine (hfind.out _).mono ?_); rintro e w9 ⟨rfl, rfl⟩) | (go_at_call 22; (with_reducible refine (hgive.out _).mono ?_); rintro e w9 ⟨rfl, b9⟩; replace hp := Lib.hid (hp.out.below b9); clear b9) | (go_at_call 25; (with_reducible refine (hcm.out _).mono ?_); rintro e w9 ⟨rfl, b9⟩; replace hp := Lib.hid (hp.out.below b9); clear b9) | (go_at_call 23; (with_reducible refine (hlm.out _).mono ?_); rintro e w9 ⟨rfl, rfl⟩))
                  go_roundg g
                  case rel => exact ⟨j + 1, L, by go_num, by omega, hp.out.drop 0, hOk.out⟩
                  case measure => omega
              · skip
                have hK0 : ¬ K < 0 := by omega
                have hK1 : 0 ≤ K := by omega
                have hK2 : ¬ K < 3 := by omega
                go_upto_block 4 with fail
                clear hcut hz hz1 hz2 hz3 e1 e2 e0
                go_wp2_with fail
                go_loopg [15, 16] 0 (fun gt s15 s16 wx => s15 = .int .i64 (-1) ∧ s16 = .int .i64 0 ∧ Hp w [] [.box q #[.int .i64 K, .string xs, .int .i64 xn] 56, arT a L, nmT d L] wx)
                case atStart => exact ⟨rfl, rfl, hpb.out⟩
                case round =>
                  clear hpb
                  obtain ⟨rfl, rfl, hp⟩ := hrel
                  replace hp := Lib.hid hp
                  have e0 : wr.cell? ⟨q, 0, none⟩ = some (.int .i64 K) := hp.out.cell (i := 0) rfl 0
                  go_wp2_with (first | (go_at_call 24; (with_reducible refine (hfind.out _).mono ?_); rintro e w9 ⟨rfl, rfl⟩) | (go_at_call 22; (with_reducible refine (hgive.out _).mono ?_); rintro e w9 ⟨rfl, b9⟩; replace hp := Lib.hid (hp.out.below b9); clear b9) | (go_at_call 25; (with_reducible refine (hcm.out _).mono ?_); rintro e w9 ⟨rfl, b9⟩; replace hp := Lib.hid (hp.out.below b9); clear b9) | (go_at_call 23; (with_reducible refine (hlm.out _).mono ?_); rintro e w9 ⟨rfl, rfl⟩))
                  go_roundg g
                  case rel => exact ⟨j + 1, L, by go_num, by omega, hp.out.drop 0, hOk.out⟩
                  case measure => omega
      case rest =>
        obtain ⟨L, hp, hOk⟩ := hcut
        replace hp := Lib.hid hp; replace hOk := Lib.hid hOk
        clear hX hXl hm hlen0 hN1 hN2
        as_aux_lemma =>
          have hFew := few_of hOk.out
          obtain ⟨PB, hPB⟩ : ∃ PB, PB = putB L := ⟨_, rfl⟩
          have hput : ∀ W rs, Hp w [] rs W → ∀ i : Nat, rs[i]? = some (nmT d L) → Calls Try.prog 28 #[.pointer (some ⟨d, 0, none⟩)] W fun e w' => e = .returned (.string (str PB)) ∧ Hp w [] rs w' := fun W rs h i hi => by rw [hPB]; exact put_hp h hi hFew
          obtain ⟨hg2, hgM⟩ := getN_put L hOk.out
          have hget : ∀ W, Calls Try.prog 27 #[.string (str PB)] W fun e w' => ∃ g, e = .returned (.tuple #[.pointer (some ⟨g, 0, none⟩), .int .i64 0]) ∧ Hp W [] [nmT g (getN (putB L)).1] w' := fun W => by
            have := get_any (str PB) W
            rw [str_toList, hPB] at this
            rw [hPB]
            refine this.mono fun e w' h => ?_
            rcases h with ⟨h1, _⟩ | ⟨_, h2⟩
            · exact absurd hg2 h1
            · exact h2
          obtain ⟨M, hM⟩ : ∃ M, M = (getN (putB L)).1 := ⟨_, rfl⟩
          rw [← hM] at hgM hget
          have hTo : putTo L 3 = PB := hPB.symm
          replace hput := Lib.hid hput; replace hget := Lib.hid hget; replace hgM := Lib.hid hgM; replace hTo := Lib.hid hTo
          clear hg2 hM hPB hFew
          go_wp2_with (first
            | (go_at_call 28; (with_reducible refine (hput.out _ _ hp.out 1 rfl).mono ?_); rintro e w5 ⟨rfl, h5⟩; replace hp := Lib.hid h5; clear h5)
            | (go_at_call 27; (with_reducible refine (hget.out _).mono ?_); rintro e w6 ⟨gm, rfl, h6⟩; replace hp := Lib.hid (hp.out.take h6); clear h6))
          clear hget
          go_loopg [24, 25] 3 (fun gn s24 s25 wx => ∃ (k : Nat) (D : List UInt8), s25 = .int .i64 (k : Int) ∧ k + gn = 3 ∧ s24 = .string (str D) ∧ D = putTo L k ∧ D.length ≤ k * 1930 ∧ Hp w [] [nmT gm M, arT a L, nmT d L] wx)
          case atStart => exact ⟨0, [], rfl, by omega, rfl, rfl, by simp, hp.out⟩
          case round =>
            clear hp
            obtain ⟨k, D, rfl, hkf, rfl, hD, hDl, hp⟩ := hrel
            replace hp := Lib.hid hp
            cases gk with
            | zero =>
              obtain rfl : k = 3 := by omega
              rw [hTo.out] at hD
              subst hD
              obtain ⟨ad0, cp0, d0, _, _⟩ := ar_at hp.out (i := 1) rfl 0 (by decide)
              have hL0 := (hOk.out 0 (by decide)).1
              have hn1 : ∀ W rs, Hp w [] rs W → rs[2]? = some (nmT d L) → Calls Try.prog 26 #[.pointer (some ⟨d, 0, none⟩), .int .i64 0, .int .i64 ((L 0).length : Int)] W fun e w' => e = .returned (.string ⟨#[]⟩) ∧ w' = W := fun W rs h hi => name_no h hi 0 (by decide) _ (Or.inr (Int.le_refl _)) (by omega)
              have hn2 : ∀ W rs, Hp w [] rs W → rs[2]? = some (nmT d L) → Calls Try.prog 26 #[.pointer (some ⟨d, 0, none⟩), .int .i64 0, .int .i64 (-1)] W fun e w' => e = .returned (.string ⟨#[]⟩) ∧ w' = W := fun W rs h hi => name_no h hi 0 (by decide) (-1) (Or.inl (by decide)) (by omega)
              have teq : (D == D) = true := by simp
              replace hn1 := Lib.hid hn1; replace hn2 := Lib.hid hn2
              clear hkf hDl d0
              go_wp2_with (first
                | (go_at_call 28; (with_reducible refine (hput.out _ _ hp.out 2 rfl).mono ?_); rintro e w5 ⟨rfl, h5⟩; replace hp := Lib.hid h5; clear h5; obtain ⟨ad0, cp0, d0, hd1, hd2⟩ := ar_at hp.out (i := 1) rfl 0 (by decide); clear hd1 hd2)
                | (go_at_call 26; (with_reducible refine (hn1.out _ _ hp.out rfl).mono ?_); rintro e w6 ⟨rfl, rfl⟩)
                | (go_at_call 26; (with_reducible refine (hn2.out _ _ hp.out rfl).mono ?_); rintro e w6 ⟨rfl, rfl⟩))
              go_ret
              exact ⟨rfl, hp.out.bel⟩
            | succ f =>
              have hk3 : k < 3 := by omega
              have hki : (k : Int) < 3 := by omega
              obtain ⟨hok1, hok2, hok3⟩ := hOk.out k hk3
              obtain ⟨l, hl⟩ : ∃ l, l = L k := ⟨_, rfl⟩
              rw [← hl] at hok1 hok2 hok3
              obtain ⟨n, hln⟩ : ∃ n, n = l.length := ⟨_, rfl⟩
              rw [← hln] at hok1
              have hallg : ∀ W rs, Hp w [] rs W → rs[0]? = some (nmT gm M) → Calls Try.prog 29 #[.pointer (some ⟨gm, 0, none⟩), .int .i64 (k : Int)] W fun e w' => ∃ v', e = .returned v' ∧ (∃ ad cp, v' = .slice ad n cp) ∧ Hp w [] (.row 9 1 v' n (nmC l) :: rs) w' := fun W rs h hi => by
                have := all_hp h hi k hk3 (by rw [hgM.out k hk3, ← hl, ← hln]; omega)
                rwa [hgM.out k hk3, ← hl, ← hln] at this
              have halld : ∀ W rs, Hp w [] rs W → rs[3]? = some (nmT d L) → Calls Try.prog 29 #[.pointer (some ⟨d, 0, none⟩), .int .i64 (k : Int)] W fun e w' => ∃ v', e = .returned v' ∧ (∃ ad cp, v' = .slice ad n cp) ∧ Hp w [] (.row 9 1 v' n (nmC l) :: rs) w' := fun W rs h hi => by
                have := all_hp h hi k hk3 (by rw [← hl, ← hln]; omega)
                rwa [← hl, ← hln] at this
              have hat : ∀ W rs (h : Hp w [] rs W) (i : Nat) (hi : rs[i]? = some (arT a L)), ∃ ad cp, W.cell? ⟨a, k, none⟩ = some (.slice ad n cp) ∧ W.ownsRow 0 9 1 (.slice ad n cp) n (nmC l) ∧ W.frozen? ⟨a, k, none⟩ = false := fun W rs h i hi => by
                have := ar_at h hi k hk3
                rwa [← hl, ← hln] at this
              have hnum : ∀ W, Calls Try.prog 30 #[.int .u64 (n : Int)] W fun e w' => e = .returned (.string (str (numL n))) ∧ Below W.heap.size W w' := fun W => code.refNum_any n (by omega) W
              have hnl := code.numL_len64 n (by omega)
              have hwu : IntKind.u64.wrap (n : Int) = (n : Int) := IntWalk.u64_in _ (by omega)
              have hfit : ¬ 9223372036854775807 < D.length + (numL n).length := by omega
              have hnext : putTo L (k + 1) = D ++ putN l := by rw [hD, hl]; rfl
              have nn : ((n : Int) != (n : Int)) = false := by simp
              replace hallg := Lib.hid hallg; replace halld := Lib.hid halld; replace hat := Lib.hid hat; replace hnum := Lib.hid hnum; replace hnext := Lib.hid hnext; replace hok3 := Lib.hid hok3; replace hln := Lib.hid hln; replace hkf := Lib.hid hkf; replace hok1 := Lib.hid hok1; replace hnl := Lib.hid hnl
              clear hD hl hok2
              go_wp2_with (first
                | (go_at_call 29; (with_reducible refine (hallg.out _ _ hp.out rfl).mono ?_); rintro e w5 ⟨v', rfl, ⟨adx, cpx, rfl⟩, h5⟩; replace hp := Lib.hid h5; clear h5)
                | (go_at_call 29; (with_reducible refine (halld.out _ _ hp.out rfl).mono ?_); rintro e w6 ⟨v', rfl, ⟨ady, cpy, rfl⟩, h6⟩; replace hp := Lib.hid h6; clear h6; obtain ⟨ad0, cp0, d0, hd1, hd2⟩ := hat.out _ _ hp.out 3 rfl; clear hd1 hd2)
                | (go_at_call 30; (with_reducible refine (hnum.out _).mono ?_); rintro e w7 ⟨rfl, b7⟩; replace hp := Lib.hid (hp.out.below b7); clear b7; obtain ⟨ad0, cp0, d0, hd1, hd2⟩ := hat.out _ _ hp.out 3 rfl; clear hd1 hd2))
              clear hallg halld hnum hfit
              go_loopg [24, 28] n (fun gi s24 s28 wx => ∃ (i : Nat) (E : List UInt8), s28 = .int .i64 (i : Int) ∧ i + gi = n ∧ s24 = .string (str E) ∧ E = D ++ (numL n ++ (l.take i).flatMap textL) ∧ E.length ≤ k * 1930 + 10 + i * 30 ∧ Hp w [] [.row 9 1 (.slice ady n cpy) n (nmC l), .row 9 1 (.slice adx n cpx) n (nmC l), nmT gm M, arT a L, nmT d L] wx)
              case atStart => exact ⟨0, _, rfl, by omega, rfl, by simp, by rw [List.length_append]; have := hnl.out; omega, hp.out⟩
              case round =>
                clear hp
                obtain ⟨i, E, rfl, hif, rfl, hE, hEl, hp⟩ := hrel
                replace hp := Lib.hid hp
                cases gk with
                | zero =>
                  obtain rfl : i = n := by omega
                  have hEn : E = putTo L (k + 1) := by
                    rw [hnext.out, hE, List.take_of_length_le (by rw [← hln.out]; exact Nat.le_refl _)]
                    unfold putN; rw [← hln.out]
                  have hEl2 : E.length ≤ (k + 1) * 1930 := by have := hok1.out; omega
                  replace hEn := Lib.hid hEn; replace hEl2 := Lib.hid hEl2
                  clear hE hEl hif
                  go_wp2_with fail
                  go_roundg f
                  case rel => exact ⟨k + 1, E, by go_num, by have := hkf.out; omega, rfl, hEn.out, hEl2.out, (hp.out.drop 0).drop 0⟩
                  case measure => omega
                | succ q =>
                  have hi1 : (i : Int) < (n : Int) := by omega
                  have hi0 : (0 : Int) ≤ (i : Int) := by omega
                  have hi64 : (i : Int) < 64 := by have := hok1.out; omega
                  obtain ⟨x, hx⟩ : ∃ x, l[i]? = some x := ⟨_, List.getElem?_eq_getElem (by have := hln.out; omega)⟩
                  have hxl : x.length ≤ 20 := (mayN_len (hok3.out x (List.mem_of_getElem? hx))).2
                  obtain ⟨ad0, cp0, d0, hr0, hd2⟩ := hat.out _ _ hp.out 3 rfl
                  obtain ⟨by', cy2, hv, _, _⟩ := (hp.out.row (i := 0) rfl).form (by omega)
                  injection hv with hv1 hv2 hv3
                  subst hv1 hv3
                  obtain ⟨bx, cx2, hv, _, _⟩ := (hp.out.row (i := 1) rfl).form (by omega)
                  injection hv with hv1 hv2 hv3
                  subst hv1 hv3
                  obtain ⟨b0, c02, hv, _, _⟩ := hr0.form (by omega)
                  injection hv with hv1 hv2 hv3
                  subst hv1 hv3
                  have c1 : wr.cell? ⟨by', i, none⟩ = some (.string (str x)) := ((hp.out.row (i := 0) rfl).cellAt i (by omega)).trans (nmC_at l i x hx)
                  have c2 : wr.cell? ⟨bx, i, none⟩ = some (.string (str x)) := ((hp.out.row (i := 1) rfl).cellAt i (by omega)).trans (nmC_at l i x hx)
                  have c3 : wr.cell? ⟨b0, i, none⟩ = some (.string (str x)) := (hr0.cellAt i (by omega)).trans (nmC_at l i x hx)
                  have txx : (x != x) = false := by simp
                  have htx : ∀ W, Calls Try.prog 31 #[.string (str x)] W fun e w' => e = .returned (.string (str (textL x))) ∧ Below W.heap.size W w' := fun W => code.rtext_put x (by omega) W
                  have htl := code.textL_len x (by omega)
                  have hfit3 : ¬ 9223372036854775807 < E.length + (textL x).length := by have := hok1.out; omega
                  have hE2 : E ++ textL x = D ++ (numL n ++ (l.take (i + 1)).flatMap textL) := by rw [flat_take1 textL l i x hx, hE]; simp
                  have hl2 : (E ++ textL x).length ≤ k * 1930 + 10 + (i + 1) * 30 := by rw [List.length_append]; omega
                  replace htx := Lib.hid htx; replace hE2 := Lib.hid hE2; replace hl2 := Lib.hid hl2
                  clear hx hxl hr0 hd2 hE htl hEl
                  go_upto_region 54 with fail
                  refine wp_region_noPanic ?_; refine wp_region_held_drew (S := (fun W' => W'.cell? ⟨a, k, none⟩ = some (.slice (some ⟨b0, 0, none⟩) n cp0) ∧ W'.cell? ⟨bx, i, none⟩ = some (.string (str x)) ∧ W'.cell? ⟨b0, i, none⟩ = some (.string (str x)) ∧ W'.cell? ⟨by', i, none⟩ = some (.string (str x)))) (by kernel_rfl) ?_ (fun hHeld => ?_); (focus ((try dsimp only); exact ⟨d0, c2, c3, c1⟩; done)); (refine take_t (i := 0) (d := 253) (oi := _) (v := ?_) rfl rfl (by kernel_rfl) (by kernel_rfl) (by kernel_rfl) (by rfl) ?_ (by assumption) ?_; rotate_left; (focus (intro w0 hSw; (try dsimp only at hSw); go_simp; (try with_reducible rfl); done)); try simp only [Act.put, List.setIfInBounds_toArray, List.set_cons_zero, List.set_cons_succ]); (refine take_t (i := 1) (d := 254) (oi := _) (v := ?_) rfl rfl (by kernel_rfl) (by kernel_rfl) (by kernel_rfl) (by rfl) ?_ (by assumption) ?_; rotate_left; (focus (intro w0 hSw; (try dsimp only at hSw); go_simp; (try with_reducible rfl); done)); try simp only [Act.put, List.setIfInBounds_toArray, List.set_cons_zero, List.set_cons_succ]); (refine take_t (i := 2) (d := 255) (oi := _) (v := ?_) rfl rfl (by kernel_rfl) (by kernel_rfl) (by kernel_rfl) (by rfl) ?_ (by assumption) ?_; rotate_left; (focus (intro w0 hSw; (try dsimp only at hSw); go_simp; (try with_reducible rfl); done)); try simp only [Act.put, List.setIfInBounds_toArray, List.set_cons_zero, List.set_cons_succ]); (refine take_t (i := 3) (d := 256) (oi := _) (v := ?_) rfl rfl (by kernel_rfl) (by kernel_rfl) (by kernel_rfl) (by rfl) ?_ (by assumption) ?_; rotate_left; (focus (intro w0 hSw; (try dsimp only at hSw); go_simp; (try with_reducible rfl); done)); try simp only [Act.put, List.setIfInBounds_toArray, List.set_cons_zero, List.set_cons_succ]); (refine take_t (i := 4) (d := 257) (oi := _) (v := ?_) rfl rfl (by kernel_rfl) (by kernel_rfl) (by kernel_rfl) (by rfl) ?_ (by assumption) ?_; rotate_left; (focus (intro w0 hSw; (try dsimp only at hSw); go_simp; (try with_reducible rfl); done)); try simp only [Act.put, List.setIfInBounds_toArray, List.set_cons_zero, List.set_cons_succ]); (refine take_t (i := 5) (d := 258) (oi := _) (v := ?_) rfl rfl (by kernel_rfl) (by kernel_rfl) (by kernel_rfl) (by rfl) ?_ (by assumption) ?_; rotate_left; (focus (intro w0 hSw; (try dsimp only at hSw); go_simp; (try with_reducible rfl); done)); try simp only [Act.put, List.setIfInBounds_toArray, List.set_cons_zero, List.set_cons_succ]); (refine take_t (i := 6) (d := 259) (oi := _) (v := ?_) rfl rfl (by kernel_rfl) (by kernel_rfl) (by kernel_rfl) (by rfl) ?_ (by assumption) ?_; rotate_left; (focus (intro w0 hSw; (try dsimp only at hSw); go_simp; (try with_reducible rfl); done)); try simp only [Act.put, List.setIfInBounds_toArray, List.set_cons_zero, List.set_cons_succ]); (refine take_t (i := 7) (d := 260) (oi := _) (v := ?_) rfl rfl (by kernel_rfl) (by kernel_rfl) (by kernel_rfl) (by rfl) ?_ (by assumption) ?_; rotate_left; (focus (intro w0 hSw; (try dsimp only at hSw); go_simp; (try with_reducible rfl); done)); try simp only [Act.put, List.setIfInBounds_toArray, List.set_cons_zero, List.set_cons_succ]); (refine take_t (i := 8) (d := 261) (oi := _) (v := ?_) rfl rfl (by kernel_rfl) (by kernel_rfl) (by kernel_rfl) (by rfl) ?_ (by assumption) ?_; rotate_left; (focus (intro w0 hSw; (try dsimp only at hSw); go_simp; (try with_reducible rfl); done)); try simp only [Act.put, List.setIfInBounds_toArray, List.set_cons_zero, List.set_cons_succ]); (refine take_t (i := 9) (d := 262) (oi := _) (v := ?_) rfl rfl (by kernel_rfl) (by kernel_rfl) (by kernel_rfl) (by rfl) ?_ (by assumption) ?_; rotate_left; (focus (intro w0 hSw; (try dsimp only at hSw); go_simp; (try with_reducible rfl); done)); try simp only [Act.put, List.setIfInBounds_toArray, List.set_cons_zero, List.set_cons_succ]); (refine take_t (i := 10) (d := 263) (oi := _) (v := ?_) rfl rfl (by kernel_rfl) (by kernel_rfl) (by kernel_rfl) (by rfl) ?_ (by assumption) ?_; rotate_left; (focus (intro w0 hSw; (try dsimp only at hSw); go_simp; (try with_reducible rfl); done)); try simp only [Act.put, List.setIfInBounds_toArray, List.set_cons_zero, List.set_cons_succ]); (refine take_t (i := 11) (d := 264) (oi := _) (v := ?_) rfl rfl (by kernel_rfl) (by kernel_rfl) (by kernel_rfl) (by rfl) ?_ (by assumption) ?_; rotate_left; (focus (intro w0 hSw; (try dsimp only at hSw); go_simp; (try with_reducible rfl); done)); try simp only [Act.put, List.setIfInBounds_toArray, List.set_cons_zero, List.set_cons_succ]); (refine take_t (i := 12) (d := 265) (oi := _) (v := ?_) rfl rfl (by kernel_rfl) (by kernel_rfl) (by kernel_rfl) (by rfl) ?_ (by assumption) ?_; rotate_left; (focus (intro w0 hSw; (try dsimp only at hSw); go_simp; (try with_reducible rfl); done)); try simp only [Act.put, List.setIfInBounds_toArray, List.set_cons_zero, List.set_cons_succ]); (refine take_t (i := 13) (d := 266) (oi := _) (v := ?_) rfl rfl (by kernel_rfl) (by kernel_rfl) (by kernel_rfl) (by rfl) ?_ (by assumption) ?_; rotate_left; (focus (intro w0 hSw; (try dsimp only at hSw); go_simp; (try with_reducible rfl); done)); try simp only [Act.put, List.setIfInBounds_toArray, List.set_cons_zero, List.set_cons_succ]); (refine take_t (i := 14) (d := 267) (oi := _) (v := ?_) rfl rfl (by kernel_rfl) (by kernel_rfl) (by kernel_rfl) (by rfl) ?_ (by assumption) ?_; rotate_left; (focus (intro w0 hSw; (try dsimp only at hSw); go_simp; (try with_reducible rfl); done)); try simp only [Act.put, List.setIfInBounds_toArray, List.set_cons_zero, List.set_cons_succ]); (refine take_t (i := 15) (d := 268) (oi := _) (v := ?_) rfl rfl (by kernel_rfl) (by kernel_rfl) (by kernel_rfl) (by rfl) ?_ (by assumption) ?_; rotate_left; (focus (intro w0 hSw; (try dsimp only at hSw); go_simp; (try with_reducible rfl); done)); try simp only [Act.put, List.setIfInBounds_toArray, List.set_cons_zero, List.set_cons_succ]); (refine take_t (i := 16) (d := 269) (oi := _) (v := ?_) rfl rfl (by kernel_rfl) (by kernel_rfl) (by kernel_rfl) (by rfl) ?_ (by assumption) ?_; rotate_left; (focus (intro w0 hSw; (try dsimp only at hSw); go_simp; (try with_reducible rfl); done)); try simp only [Act.put, List.setIfInBounds_toArray, List.set_cons_zero, List.set_cons_succ]); (refine take_t (i := 17) (d := 270) (oi := _) (v := ?_) rfl rfl (by kernel_rfl) (by kernel_rfl) (by kernel_rfl) (by rfl) ?_ (by assumption) ?_; rotate_left; (focus (intro w0 hSw; (try dsimp only at hSw); go_simp; (try with_reducible rfl); done)); try simp only [Act.put, List.setIfInBounds_toArray, List.set_cons_zero, List.set_cons_succ]); (refine take_t (i := 18) (d := 271) (oi := _) (v := ?_) rfl rfl (by kernel_rfl) (by kernel_rfl) (by kernel_rfl) (by rfl) ?_ (by assumption) ?_; rotate_left; (focus (intro w0 hSw; (try dsimp only at hSw); go_simp; (try with_reducible rfl); done)); try simp only [Act.put, List.setIfInBounds_toArray, List.set_cons_zero, List.set_cons_succ]); (refine take_t (i := 19) (d := 272) (oi := _) (v := ?_) rfl rfl (by kernel_rfl) (by kernel_rfl) (by kernel_rfl) (by rfl) ?_ (by assumption) ?_; rotate_left; (focus (intro w0 hSw; (try dsimp only at hSw); go_simp; (try with_reducible rfl); done)); try simp only [Act.put, List.setIfInBounds_toArray, List.set_cons_zero, List.set_cons_succ]); (refine take_t (i := 20) (d := 273) (oi := _) (v := ?_) rfl rfl (by kernel_rfl) (by kernel_rfl) (by kernel_rfl) (by rfl) ?_ (by assumption) ?_; rotate_left; (focus (intro w0 hSw; (try dsimp only at hSw); go_simp; (try with_reducible rfl); done)); try simp only [Act.put, List.setIfInBounds_toArray, List.set_cons_zero, List.set_cons_succ]); (refine take_t (i := 21) (d := 274) (oi := _) (v := ?_) rfl rfl (by kernel_rfl) (by kernel_rfl) (by kernel_rfl) (by rfl) ?_ (by assumption) ?_; rotate_left; (focus (intro w0 hSw; (try dsimp only at hSw); go_simp; (try with_reducible rfl); done)); try simp only [Act.put, List.setIfInBounds_toArray, List.set_cons_zero, List.set_cons_succ]); refine wpAnyH_done (by kernel_rfl) ?_ _; refine NoPanic.normal ?_
                  clear hHeld
                  replace hp := Lib.hid hp.out.drew
                  go_wp2_with (go_at_call 31; (with_reducible refine (htx.out _).mono ?_); rintro e w8 ⟨rfl, b8⟩; replace hp := Lib.hid (hp.out.below b8); clear b8)
                  go_roundg q
                  case rel => exact ⟨i + 1, _, by go_num, by omega, rfl, hE2.out, hl2.out, hp.out⟩
                  case measure => omega
    | succ g =>
      have hlt : (i : Int) < (N : Int) := by omega
      have hi128 : i < 128 := by have := hN2.out; omega
      obtain ⟨s, hs⟩ : ∃ s, s = nmI i := ⟨_, rfl⟩
      obtain ⟨x, hx⟩ : ∃ x, x = 97 + i % 16 := ⟨_, rfl⟩
      obtain ⟨y, hy⟩ : ∃ y, y = 97 + i / 16 := ⟨_, rfl⟩
      have hx0 : (97 : Int) + (i : Int) % 16 = (x : Int) := by omega
      have hy0 : (97 : Int) + (i : Int) / 16 = (y : Int) := by omega
      have hxw : IntKind.u8.wrap (x : Int) = (x : Int) := by rw [IntKind.wrap_u8]; omega
      have hyw : IntKind.u8.wrap (y : Int) = (y : Int) := by rw [IntKind.wrap_u8]; omega
      have hconv : ∀ W : World, (convert 36 9 (.slice (some ⟨W.heap.size, 0, none⟩) 2 2)).run Try.prog (W.alloc (.cells #[.int .u8 (x : Int), .int .u8 (y : Int)] 5)) = .ok (.string (str [UInt8.ofNat x, UInt8.ofNat y])) (W.alloc (.cells #[.int .u8 (x : Int), .int .u8 (y : Int)] 5)) := fun W => by
        have := conv2 W x y
        simpa using this
      have happ : (⟨#[110]⟩ : ByteArray) ++ str [UInt8.ofNat x, UInt8.ofNat y] = str s := by
        have := str_append [110] [UInt8.ofNat x, UInt8.ofNat y]
        rw [hs]; unfold nmI; rw [← hx, ← hy]; exact this
      have hm0 : mayN s = true := by rw [hs]; exact nmI_may i hi128
      have hsz1 : (⟨#[110]⟩ : ByteArray).size = 1 := rfl
      have hi0 : (0 : Int) ≤ (i : Int) := by omega
      by_cases h64 : i < 64
      · have hL0 : L 0 = nmIs i := by rw [h0, Nat.min_eq_left (by omega)]
        have hno : s ∉ nmIs i := by rw [hs]; exact nmIs_no i i (Nat.le_refl _) hi128
        have hg1 : gvN (L 0) s = i := by unfold gvN; rw [hL0, if_neg hno, nmIs_len, if_neg (by omega)]
        have hg2 : gvE (L 0) s = 0 := by unfold gvE; rw [hL0, if_neg hno, nmIs_len, if_neg (by omega)]
        have hg3 : gvL (L 0) s = nmIs (i + 1) := by unfold gvL; rw [hL0, if_neg hno, nmIs_len, if_neg (by omega), nmIs_succ, hs]
        have hgive : ∀ W rs, Hp w [] rs W → rs[1]? = some (nmT d L) → Calls Try.prog 22 #[.pointer (some ⟨d, 0, none⟩), .int .i64 0, .string (str s)] W fun e w' => e = .returned (.tuple #[.int .i64 (i : Int), .int .i64 0]) ∧ Hp w [] (rs.set 1 (nmT d (upd L 0 (nmIs (i + 1))))) w' := fun W rs h hi => by
          have := give_hp h hi 0 (by decide) s hm0 (by rw [hL0, nmIs_len]; omega)
          rw [hg1, hg2, hg3] at this
          exact this
        have hM1 : (nmIs (i + 1)).length = i + 1 := nmIs_len _
        have hM2 : nmC (nmIs (i + 1)) = nmC (L 0) ++ [.string (str s)] := by rw [nmIs_succ, nmC_append, hL0, hs]; rfl
        have hsl : ∀ W : World, Sl (W.alloc (.cells #[.string (str s)] 9)) (.slice (some ⟨W.heap.size, 0, none⟩) 1 1) 1 [.string (str s)] := fun W =>
          ⟨_, _, rfl, by omega, Or.inr ⟨_, 0, rfl, by simp, fun j v hj => by
            rw [Nat.zero_add]
            exact (newCell W _ _ j).trans (by simpa using hj)⟩⟩
        have hon : ∀ u ∈ [Value.string (str s)], u.oneCell' = true := fun u hu => by simp at hu; subst hu; rfl
        have hl0 : (L 0).length = i := by rw [hL0, nmIs_len]
        have h64i : (i : Int) < 64 := by omega
        replace hgive := Lib.hid hgive; replace hsl := Lib.hid hsl; replace hon := Lib.hid hon; replace hM1 := Lib.hid hM1; replace hM2 := Lib.hid hM2; replace hl0 := Lib.hid hl0; replace h1 := Lib.hid h1; replace h2 := Lib.hid h2; replace hiN := Lib.hid hiN
        clear hL0 hno hg1 hg2 hg3 hm0 hs hx hy h0
        go_upto_region 9 with (go_at_call 22; (with_reducible refine (hgive.out _ _ (hp.out.alloc_ _) rfl).mono ?_); rintro e w5 ⟨rfl, h5⟩; replace hp := Lib.hid h5; clear h5)
        clear hgive hconv happ hx0 hy0 hxw hyw hsz1
        obtain ⟨V, hv⟩ := openB hp.out
        replace hp := Lib.hid hv
        clear hv
        have hi0' := arh_at (g := a) (V := V) (L := L) (rs := [nmT d (upd L 0 (nmIs (i + 1)))]) (k := 0) (by decide)
        rw [hl0.out] at hi0'
        obtain ⟨ad, cp, hV⟩ := rowShape (hp.out.row hi0')
        rw [hV] at hi0'
        have hck : (#[V 0, V 1, V 2] : Array Value)[0]? = some (.slice ad i cp) := by rw [← hV]; rfl
        have d0 := (hp.out.cell (i := 0) rfl 0).trans hck
        have d1 := ((hp.out.alloc_ (.cells #[.string (str s)] 9)).cell (i := 0) rfl 0).trans hck
        have hpa := Lib.hid (hp.out.alloc_ (.cells #[.string (str s)] 9))
        replace hi0' := Lib.hid hi0'; replace hck := Lib.hid hck
        clear hV
        go_wp2_with (at_builtin; refine wpList_append_sl_hp rfl _ _ rfl Try.underlying51 strInfo rfl (by decide) (by decide) hpa.out 1 hi0'.out rfl rfl (hsl.out _) rfl hon.out (by omega) ?_; intro v5 w5 h5 hv5; obtain ⟨ad5, cp5, rfl⟩ := hv5; have c5 := (h5.cell (i := 0) arh_set 0).trans hck.out; have f5 := h5.free (i := 0) arh_set 0; replace h5 := Lib.hid h5)
        replace h5 := Lib.hid (growB (k := 0) (by decide) h5.out hM1.out hM2.out)
        go_roundg g
        case rel => exact ⟨i + 1, upd L 0 (nmIs (i + 1)), by go_num, by have := hiN.out; omega, h5.out, by rw [upd_same, Nat.min_eq_left (by omega)], by rw [upd_ne _ _ _ _ (by decide)]; exact h1.out, by rw [upd_ne _ _ _ _ (by decide)]; exact h2.out⟩
        case measure => omega
      · have hL0 : L 0 = nmIs 64 := by rw [h0, Nat.min_eq_right (by omega)]
        have hno : s ∉ nmIs 64 := by rw [hs]; exact nmIs_no 64 i (by omega) hi128
        have hg1 : gvN (L 0) s = 0 := by unfold gvN; rw [hL0, if_neg hno, nmIs_len, if_pos (by omega)]
        have hg2 : gvE (L 0) s = 5 := by unfold gvE; rw [hL0, if_neg hno, nmIs_len, if_pos (by omega)]
        have hg3 : upd L 0 (gvL (L 0) s) = L := upd_eq _ _ _ (by unfold gvL; rw [hL0, if_neg hno, nmIs_len, if_pos (by omega)])
        have hgive : ∀ W rs, Hp w [] rs W → rs[1]? = some (nmT d L) → Calls Try.prog 22 #[.pointer (some ⟨d, 0, none⟩), .int .i64 0, .string (str s)] W fun e w' => e = .returned (.tuple #[.int .i64 0, .int .i64 5]) ∧ Hp w [] (rs.set 1 (nmT d L)) w' := fun W rs h hi => by
          have := give_hp h hi 0 (by decide) s hm0 (by rw [hL0, nmIs_len]; omega)
          rw [hg1, hg2, hg3] at this
          exact this
        have hl0 : (L 0).length = 64 := by rw [hL0, nmIs_len]
        have hmn : L 0 = nmIs (min (i + 1) 64) := by rw [hL0, Nat.min_eq_right (by omega)]
        replace hgive := Lib.hid hgive; replace hl0 := Lib.hid hl0; replace h1 := Lib.hid h1; replace h2 := Lib.hid h2; replace hiN := Lib.hid hiN; replace hmn := Lib.hid hmn
        clear hL0 hno hg1 hg2 hg3 hm0 hs hx hy h0
        go_upto_region 9 with (go_at_call 22; (with_reducible refine (hgive.out _ _ (hp.out.alloc_ _) rfl).mono ?_); rintro e w5 ⟨rfl, h5⟩; replace hp := Lib.hid h5; clear h5)
        clear hgive hconv happ hx0 hy0 hxw hyw hsz1
        obtain ⟨V, hv1, hv2⟩ := hp_ar hp.out (i := 0) rfl
        have hr0 := hv2 0 (by decide)
        rw [hl0.out] at hr0
        obtain ⟨ad, cp, hV⟩ := rowShape hr0
        have d0 := cell_of_row _ _ 0 _ _ _ hv1
        have hck : (#[V 0, V 1, V 2] : Array Value)[0]? = some (.slice ad 64 cp) := by rw [← hV]; rfl
        rw [hck] at d0
        clear hv1 hv2 hr0 hV hck
        go_wp2_with fail
        go_roundg g
        case rel => exact ⟨i + 1, L, by go_num, by have := hiN.out; omega, hp.out, hmn.out, h1.out, h2.out⟩
        case measure => omega
end Go.Proofs.Ytdgpalileloekaa.names
