/- The law of changes by their keys, whole: for every slice of changes and every two ends: each key's last change is told, all in order, and each range. No condition. -/
import Derived.Test.YtmfodnbhhfegeaaDelHp
import Derived.Test.YtmfodnbhhfegeaaDelWith
import Derived.Test.YtmfodnbhhfegeaaDelSame
namespace Go.Proofs.Ytmfodnbhhfegeaa.delta
open Go.RowKit
attribute [local go_sem ↓] Go.wp_at_zero Go.wp_at_succ
set_option linter.unusedVariables false
set_option maxRecDepth 100000

theorem filter_snoc {α : Type} (p : α → Bool) (l : List α) (i : Nat) (x : α) (h : l[i]? = some x) : (l.take (i + 1)).filter p = (l.take i).filter p ++ (if p x then [x] else []) := by
  rw [List.take_add_one, h]; simp [List.filter_append, List.filter_cons]
theorem empty_facts' {k : ByteArray} (h : eqB k ⟨#[]⟩ = true) : (k.toList == []) = true ∧ k.toList = [] ∧ k.toList.isEmpty = true := by
  have e : (⟨#[]⟩ : ByteArray).toList = [] := by rw [ByteArray.toList_eq]
  have h2 := eqB_iff.1 h
  subst h2
  rw [e]; exact ⟨rfl, rfl, rfl⟩
def Ch.wf (x : Ch) : Prop := x.k.size ≤ 9223372036854775807 ∧ x.v.size ≤ 9223372036854775807
theorem argCh {w : World} {a : Option Addr} {len : Nat} (h : SliceArg w a len 3 (fun j v => match j with | 0 => ∃ x, v = .string x ∧ x.size ≤ maxLen | 1 => ∃ x, v = .string x ∧ x.size ≤ maxLen | 2 => ∃ x, v = .bool x | _ => False)) (k : Nat) (hk : k ≤ len) :
    ∃ X : List Ch, X.length = k ∧ ∀ (i : Nat) (x : Ch), X[i]? = some x → x.wf ∧ ∃ b o, a = some ⟨b, o, none⟩ ∧ b < w.heap.size ∧ w.cell? ⟨b, o + i * 3, none⟩ = some (.string x.k) ∧ w.cell? ⟨b, o + i * 3 + 1, none⟩ = some (.string x.v) ∧ w.cell? ⟨b, o + i * 3 + 2, none⟩ = some (.bool x.g) := by
  obtain ⟨X, hX, hR⟩ := list_of (fun i (x : Ch) => x.wf ∧ ∃ b o, a = some ⟨b, o, none⟩ ∧ b < w.heap.size ∧ w.cell? ⟨b, o + i * 3, none⟩ = some (.string x.k) ∧ w.cell? ⟨b, o + i * 3 + 1, none⟩ = some (.string x.v) ∧ w.cell? ⟨b, o + i * 3 + 2, none⟩ = some (.bool x.g)) k (fun i hi => by
    obtain ⟨_, h2⟩ := h
    obtain ⟨b, o, ha, hb, hc⟩ := h2.resolve_left (by omega)
    obtain ⟨v0, c0, x0, rfl, w0⟩ := hc i (by omega) 0 (by omega)
    obtain ⟨v1, c1, x1, rfl, w1⟩ := hc i (by omega) 1 (by omega)
    obtain ⟨v2, c2, x2, rfl⟩ := hc i (by omega) 2 (by omega)
    exact ⟨⟨x0, x1, x2⟩, ⟨w0, w1⟩, b, o, ha, hb, by simpa using c0, c1, c2⟩)
  exact ⟨X, hX, hR⟩
theorem get_put (c : Ch) (L : List Ch) : getC c.k (putL c L) = c ∧ atB c.k (putL c L) = true := by
  obtain ⟨h1, h2⟩ := put_pos c L
  have h3 : atB c.k (putL c L) = true := by unfold atB; rw [h1, h2]; exact eqB_self _
  refine ⟨?_, h3⟩
  unfold getC
  rw [if_pos h3, h1, h2]; rfl
def Named (L : List Ch) : Prop := ∀ x ∈ L, eqB x.k ⟨#[]⟩ = false
theorem get_none (L : List Ch) (h : Named L) : getC ⟨#[]⟩ L = zCh ∧ atB ⟨#[]⟩ L = false := by
  have h0 : atB ⟨#[]⟩ L = false := by
    unfold atB
    cases q : L[pos ⟨#[]⟩ L]? with
    | none => rfl
    | some x => exact h x (List.mem_of_getElem? q)
  exact ⟨by unfold getC; rw [h0]; rfl, h0⟩
theorem put_named (c : Ch) (L : List Ch) (h : Named L) (hk : eqB c.k ⟨#[]⟩ = false) : Named (putL c L) := fun x hx => by
  rcases put_mem c L x hx with rfl | hx
  · exact hk
  · exact h x hx
set_option maxHeartbeats 8000000 in
theorem deltaPlays_walk (a0 : Option Addr) (len0 cap0 : Nat) (a1 : ByteArray) (a2 : ByteArray) (w : World) (w0 : SliceArg w a0 len0 3 (fun j v => match j with | 0 => ∃ x, v = .string x ∧ x.size ≤ maxLen | 1 => ∃ x, v = .string x ∧ x.size ≤ maxLen | 2 => ∃ x, v = .bool x | _ => False)) (w1 : a1.size ≤ maxLen) (w2 : a2.size ≤ maxLen) :
    Calls Try.prog 9 #[.slice a0 len0 cap0, .string a1, .string a2] w fun e w' => e = .returned (.bool true) ∧ Below w.heap.size w w' := by
  obtain ⟨K, hK⟩ : ∃ K, K = min len0 60 := ⟨_, rfl⟩
  obtain ⟨X, hX, hR⟩ := argCh w0 K (by omega)
  have hl63 := w0.1
  have hK60 : K ≤ 60 := by omega
  have hKl : K ≤ len0 := by omega
  have hKe : K = len0 ∨ K = 60 := by omega
  clear hK
  have hnew := Lib.hid (new_hp (Hp.none_ w []))
  replace hX := Lib.hid hX; replace hR := Lib.hid hR
  clear w0 w1 w2
  go_enter Try.func9, Try.ntmps9
  go_wp2_with (go_at_call 47; (with_reducible refine (hnew.out).mono ?_); rintro e w1 ⟨d, rfl, h1⟩; have hp := Lib.hid (h1.rowLit #[] 93 3 0 (by decide) rfl); clear h1)
  go_loopw [8, 9] (fun s8 s9 wr => ∃ (i : Nat) (L : List Ch) (ad : Option Addr) (cp : Nat), s9 = .int .i64 (i : Int) ∧ i ≤ K ∧ s8 = .slice ad L.length cp ∧ L.length ≤ i ∧ Srt L ∧ Named L ∧ Hp w [] [.row 93 3 (.slice ad L.length cp) L.length (chC L), del d L] wr) (fun _ s9 _ => K - (intOf s9).toNat)
  case atStart => exact ⟨0, [], _, _, rfl, by omega, rfl, by simp, by simp [Srt], fun x hx => by simp at hx, hp.out⟩
  case round =>
    clear hp
    obtain ⟨i, L, ad, cp, rfl, hi, rfl, hLi, hs, hnm, hp⟩ := hrel
    by_cases hlt : i < K
    · have g1 : (i : Int) < (len0 : Int) := by omega
      have g2 : (i : Int) < 60 := by omega
      have g3 : (0 : Int) ≤ (i : Int) := by omega
      obtain ⟨x, hx⟩ : ∃ x, X[i]? = some x := ⟨_, List.getElem?_eq_getElem (by have := hX.out; omega)⟩
      obtain ⟨hwf, b, o, rfl, hbw, c0, c1, c2⟩ := hR.out i x hx
      have d0 := (hp.bel.cell (p := ⟨b, o + i * 3, none⟩) hbw).trans c0
      have d1 := (hp.bel.cell (p := ⟨b, o + i * 3 + 1, none⟩) hbw).trans c1
      have d2 := (hp.bel.cell (p := ⟨b, o + i * 3 + 2, none⟩) hbw).trans c2
      have hfew := fun W => few_any x hwf.1 hwf.2 W
      obtain ⟨xk, xv, xg⟩ := x
      obtain ⟨c, hc⟩ : ∃ c, c = fewC ⟨xk, xv, xg⟩ := ⟨_, rfl⟩
      rw [← hc] at hfew
      unfold Ch.a at hfew
      simp only at hfew d0 d1 d2
      clear hc c0 c1 c2 hx hwf hbw
      obtain ⟨ck, cv, cg⟩ := c
      simp only at hfew
      have hL2 : L.length ≤ 90000 := by omega
      replace hfew := Lib.hid hfew; replace hs := Lib.hid hs; replace hnm := Lib.hid hnm; replace hp := Lib.hid hp; replace hL2 := Lib.hid hL2
      cases hk : eqB ck ⟨#[]⟩ with
      | true =>
        obtain rfl := eqB_iff.1 hk
        have hk1 := Lib.hid hk
        obtain ⟨n1, n2⟩ := get_none L hnm.out
        have hput : ∀ W, Calls Try.prog 49 #[.pointer (some ⟨d, 0, none⟩), .agg #[.string ⟨#[]⟩, .string cv, .bool cg]] W fun e w' => e = .returned (.tuple #[]) ∧ Below W.heap.size W w' := fun W => put_empty d ⟨⟨#[]⟩, cv, cg⟩ W hk
        have hget : ∀ W rs (h : Hp w [] rs W) (hi : rs[2]? = some (del d L)), Calls Try.prog 51 #[.pointer (some ⟨d, 0, none⟩), .string ⟨#[]⟩] W fun e w' => e = .returned (.tuple #[.agg #[.string ⟨#[]⟩, .string ⟨#[]⟩, .bool false], .bool false]) ∧ Hp w [] rs w' := fun W rs h hi => by
          have := get_hp h hi ⟨#[]⟩ hs.out (by have := hL2.out; omega)
          rw [n1, n2] at this; exact this
        have hlen : ∀ W rs (h : Hp w [] rs W) (hi : rs[3]? = some (del d L)), Calls Try.prog 52 #[.pointer (some ⟨d, 0, none⟩)] W fun e w' => e = .returned (.int .i64 (L.length : Int)) ∧ w' = W := fun W rs h hi => len_hp h hi
        replace hput := Lib.hid hput; replace hget := Lib.hid hget; replace hlen := Lib.hid hlen
        clear hk hk1 n1 n2
        go_wp2_with (first
          | (go_at_call 48; (with_reducible refine (hfew.out _).mono ?_); rintro e w1 ⟨rfl, b1⟩; replace hp := Lib.hid ((hp.out.below b1).alloc #[.string ⟨#[]⟩, .string cv, .bool cg] 93); clear b1)
          | (go_at_call 49; (with_reducible refine (hput.out _).mono ?_); rintro e w2 ⟨rfl, b2⟩; replace hp := Lib.hid (hp.out.below b2); clear b2; have x0 := hp.out.cell (i := 0) rfl 0; have x1 := hp.out.cell (i := 0) rfl 1; have x2 := hp.out.cell (i := 0) rfl 2; simp at x0 x1 x2)
          | (go_at_call 51; (with_reducible refine (hget.out _ _ hp.out rfl).mono ?_); rintro e w3 ⟨rfl, h3⟩; replace hp := Lib.hid (h3.alloc #[.string ⟨#[]⟩, .string ⟨#[]⟩, .bool false] 93); clear h3; have x0 := hp.out.cell (i := 1) rfl 0; have x1 := hp.out.cell (i := 1) rfl 1; have x2 := hp.out.cell (i := 1) rfl 2; simp at x0 x1 x2)
          | (go_at_call 52; (with_reducible refine (hlen.out _ _ hp.out rfl).mono ?_); rintro e w4 ⟨rfl, rfl⟩))
        go_roundw
        case rel => exact ⟨i + 1, L, ad, cp, by go_num, by omega, rfl, by omega, hs.out, hnm.out, (hp.out.drop 0).drop 0⟩
        case measure => simp [intOf]; omega
      | false =>
        obtain ⟨q1, q2, q3⟩ := empty_facts hk
        have hs' := put_srt ⟨ck, cv, cg⟩ L hs.out
        have hnm' := put_named ⟨ck, cv, cg⟩ L hnm.out hk
        have hwl := with_put ⟨ck, cv, cg⟩ L hs.out
        obtain ⟨n1, n2⟩ := get_put ⟨ck, cv, cg⟩ L
        have hpl := put_len ⟨ck, cv, cg⟩ L
        obtain ⟨L', hL'⟩ : ∃ L', L' = putL ⟨ck, cv, cg⟩ L := ⟨_, rfl⟩
        rw [← hL'] at hs' hnm' hwl n1 n2 hpl
        have hput : ∀ W rs (h : Hp w [] rs W) (hi : rs[2]? = some (del d L)), Calls Try.prog 49 #[.pointer (some ⟨d, 0, none⟩), .agg #[.string ck, .string cv, .bool cg]] W fun e w' => e = .returned (.tuple #[]) ∧ Hp w [] (rs.set 2 (del d L')) w' := fun W rs h hi => by
          rw [hL']; exact put_hp h hi ⟨ck, cv, cg⟩ hs.out hL2.out hk
        have hwith : ∀ W (v : Value) (h : Sl W v L.length (chC L)), Calls Try.prog 50 #[v, .agg #[.string ck, .string cv, .bool cg]] W fun e w' => ∃ v', e = .returned v' ∧ RowOf W L' v' w' := fun W v h => by
          rw [← hwl]; exact with_any ⟨ck, cv, cg⟩ v L W h hL2.out
        have hget : ∀ W rs (h : Hp w [] rs W) (hi : rs[3]? = some (del d L')), Calls Try.prog 51 #[.pointer (some ⟨d, 0, none⟩), .string ck] W fun e w' => e = .returned (.tuple #[.agg #[.string ck, .string cv, .bool cg], .bool true]) ∧ Hp w [] rs w' := fun W rs h hi => by
          have := get_hp h hi ck hs' (by have := hL2.out; omega)
          rw [n1, n2] at this; exact this
        have hlen : ∀ W rs (h : Hp w [] rs W) (hi : rs[4]? = some (del d L')), Calls Try.prog 52 #[.pointer (some ⟨d, 0, none⟩)] W fun e w' => e = .returned (.int .i64 (L'.length : Int)) ∧ w' = W := fun W rs h hi => len_hp h hi
        replace hput := Lib.hid hput; replace hget := Lib.hid hget; replace hlen := Lib.hid hlen; replace hwith := Lib.hid hwith
        replace hs' := Lib.hid hs'; replace hnm' := Lib.hid hnm'
        have hL3 : L.length ≤ 140737488355328 := by omega
        replace hL3 := Lib.hid hL3; replace hpl := Lib.hid hpl
        clear hk n1 n2 hwl hL'
        go_wp2_with (first
          | (go_at_call 48; (with_reducible refine (hfew.out _).mono ?_); rintro e w1 ⟨rfl, b1⟩; replace hp := Lib.hid ((hp.out.below b1).alloc #[.string ck, .string cv, .bool cg] 93); clear b1)
          | (go_at_call 49; (with_reducible refine (hput.out _ _ hp.out rfl).mono ?_); rintro e w2 ⟨rfl, h2⟩; replace hp := Lib.hid h2; clear h2; have x0 := hp.out.cell (i := 0) rfl 0; have x1 := hp.out.cell (i := 0) rfl 1; have x2 := hp.out.cell (i := 0) rfl 2; simp at x0 x1 x2)
          | (go_at_call 50; (with_reducible refine (hwith.out _ _ (hp.out.sl (i := 1) rfl hL3.out)).mono ?_); rintro e w3 ⟨v3, rfl, r3⟩; have r4 := row_hp hp.out r3; clear r3; obtain ⟨⟨ad3, cp3, rfl⟩, h3⟩ := r4; replace hp := Lib.hid h3; clear h3; have x0 := hp.out.cell (i := 1) rfl 0; have x1 := hp.out.cell (i := 1) rfl 1; have x2 := hp.out.cell (i := 1) rfl 2; simp at x0 x1 x2)
          | (go_at_call 51; (with_reducible refine (hget.out _ _ hp.out rfl).mono ?_); rintro e w5 ⟨rfl, h5⟩; replace hp := Lib.hid (h5.alloc #[.string ck, .string cv, .bool cg] 93); clear h5; have x0 := hp.out.cell (i := 2) rfl 0; have x1 := hp.out.cell (i := 2) rfl 1; have x2 := hp.out.cell (i := 2) rfl 2; simp at x0 x1 x2)
          | (go_at_call 52; (with_reducible refine (hlen.out _ _ hp.out rfl).mono ?_); rintro e w6 ⟨rfl, rfl⟩))
        go_roundw
        case rel => exact ⟨i + 1, L', ad3, cp3, by go_num, by omega, rfl, by have := hpl.out; omega, hs'.out, hnm'.out, ((hp.out.drop 0).drop 1).drop 1⟩
        case measure => simp [intOf]; omega
    · obtain rfl : i = K := by omega
      have hwr := want_range a1 a2 L hs
      obtain ⟨n, hln⟩ : ∃ n, n = L.length := ⟨_, rfl⟩
      have hn : n ≤ 60 := by omega
      have hLs : L.length ≤ 100000 := by omega
      have hrl : (rangeL a1 a2 L).length ≤ 60 := by rw [← hwr]; exact Nat.le_trans (List.length_filter_le _ _) (by omega)
      have hall : ∀ W rs (h : Hp w [] rs W) (hi : rs[2]? = some (del d L)), Calls Try.prog 55 #[.pointer (some ⟨d, 0, none⟩)] W fun e w' => ∃ v', e = .returned v' ∧ (∃ ad cp, v' = .slice ad L.length cp) ∧ Hp w [] (.row 93 3 v' L.length (chC L) :: rs) w' := fun W rs h hi => all_hp h hi hs hLs
      have hrng : ∀ W rs (h : Hp w [] rs W) (hi : rs[3]? = some (del d L)), Calls Try.prog 56 #[.pointer (some ⟨d, 0, none⟩), .string a1, .string a2] W fun e w' => ∃ v', e = .returned v' ∧ (∃ ad cp, v' = .slice ad (L.filter (wantB a1 a2)).length cp) ∧ Hp w [] (.row 93 3 v' (L.filter (wantB a1 a2)).length (chC (L.filter (wantB a1 a2))) :: rs) w' := fun W rs h hi => by rw [hwr]; exact range_hp h hi a1 a2 hs hLs
      have haw := fun W => awake_any W
      obtain ⟨F, hF⟩ : ∃ F, F = L.filter (wantB a1 a2) := ⟨_, rfl⟩
      have hFl : F.length ≤ 60 := by rw [hF]; exact Nat.le_trans (List.length_filter_le _ _) (by omega)
      rw [← hF] at hrng
      have hsamL : ∀ W (v u : Value), Sl W v L.length (chC L) → Sl W u L.length (chC L) → Calls Try.prog 54 #[v, u] W fun e w' => e = .returned (.bool true) ∧ Below W.heap.size W w' := fun W v u h h' => same_eq v u L W h h' (by omega)
      have hsamF : ∀ W (v u : Value), Sl W v F.length (chC F) → Sl W u F.length (chC F) → Calls Try.prog 54 #[v, u] W fun e w' => e = .returned (.bool true) ∧ Below W.heap.size W w' := fun W v u h h' => same_eq v u F W h h' (by omega)
      have hnS := Lib.hid (show n ≤ 140737488355328 by omega)
      have hFS := Lib.hid (show F.length ≤ 140737488355328 by omega)
      rw [← hln] at hall hp hsamL ⊢
      replace hall := Lib.hid hall; replace hrng := Lib.hid hrng; replace haw := Lib.hid haw; replace hsamL := Lib.hid hsamL; replace hsamF := Lib.hid hsamF; replace hF := Lib.hid hF; replace hFl := Lib.hid hFl; replace hln := Lib.hid hln
      replace hs := Lib.hid hs; replace hp := Lib.hid hp; replace hnm := Lib.hid hnm
      have hgl : decide ((i : Int) < (len0 : Int)) = false ∨ ((i : Int) < (len0 : Int) ∧ decide ((i : Int) < 60) = false) := by
        by_cases h5 : (i : Int) < (len0 : Int)
        · right; exact ⟨h5, by simp; omega⟩
        · left; simpa using h5
      clear hLs hrl hwr hLi hKe hKl hK60 hX hR
      rcases hgl with g1 | ⟨g1, g2⟩
      case inl =>
        have g1' : decide (i < len0) = false := by simpa using g1
        go_upto_region 13 with fail
        replace hp := Lib.hid (hp.out.rowLit #[] 93 3 0 (by decide) rfl)
        go_wp2
        go_loopw [13, 14] (fun s13 s14 wz => ∃ (j : Nat) (ad2 : Option Addr) (cp2 : Nat), s14 = .int .i64 (j : Int) ∧ j ≤ n ∧ s13 = .slice ad2 ((L.take j).filter (wantB a1 a2)).length cp2 ∧ Hp w [] [.row 93 3 (.slice ad2 ((L.take j).filter (wantB a1 a2)).length cp2) ((L.take j).filter (wantB a1 a2)).length (chC ((L.take j).filter (wantB a1 a2))), .row 93 3 (.slice ad n cp) n (chC L), del d L] wz) (fun _ s14 _ => n - (intOf s14).toNat)
        case atStart => exact ⟨0, _, _, rfl, by omega, rfl, hp.out⟩
        case round =>
          obtain ⟨j, ad2, cp2, rfl, hj, rfl, hq⟩ := hrel
          by_cases hjn : j < n
          · obtain ⟨x, hx⟩ : ∃ x, L[j]? = some x := ⟨_, List.getElem?_eq_getElem (by have := hln.out; omega)⟩
            obtain ⟨b, cap, hv, _, _⟩ := (hq.row (i := 1) rfl).form (by omega)
            injection hv with hv1 hv2 hv3
            subst hv1 hv3
            obtain ⟨y0, y1, y2⟩ := rowC (hq.row (i := 1) rfl) hx hln.out.symm
            have hfs := filter_snoc (wantB a1 a2) L j x hx
            have hMl := Lib.hid (show ((L.take j).filter (wantB a1 a2)).length < 100000000 from Nat.lt_of_le_of_lt (List.length_filter_le _ _) (by rw [List.length_take]; omega))
            obtain ⟨M, hM⟩ : ∃ M, M = (L.take j).filter (wantB a1 a2) := ⟨_, rfl⟩
            rw [← hM] at hq hfs hMl ⊢
            have hwx : wantB a1 a2 x = (!(lt x.k a1) && (eqB a2 ⟨#[]⟩ || lt x.k a2)) := rfl
            have t1 : (0 : Int) ≤ (j : Int) := by omega
            have t2 : (j : Int) < (n : Int) := by omega
            replace hq := Lib.hid hq
            clear hM hx
            cases hb1 : lt x.k a1 with
            | true =>
              have r1 : Op.bytesLess x.k.toList a1.toList = true := hb1
              rw [hb1] at hwx
              rw [hwx, if_neg (by simp)] at hfs
              replace hfs := Lib.hid hfs
              clear hb1 hwx
              go_wp2
              go_roundw
              case rel => exact ⟨j + 1, ad2, cp2, by go_num, by omega, by rw [hfs.out, List.append_nil], by rw [hfs.out, List.append_nil]; exact hq.out⟩
              case measure => simp [intOf]; omega
            | false =>
              have r1 : Op.bytesLess x.k.toList a1.toList = false := hb1
              rw [hb1] at hwx
              clear hb1
              cases hb2 : eqB a2 ⟨#[]⟩ with
              | true =>
                obtain ⟨q1, q2, q3⟩ := empty_facts' hb2
                rw [hb2] at hwx
                rw [hwx, if_pos (by simp)] at hfs
                replace hfs := Lib.hid hfs
                clear hb2 hwx
                go_wp2_with (at_builtin; go_loud (refine wpList_append_hp rfl _ _ rfl Try.underlying89 eInfo rfl (by decide) (by decide) (hq.out.alloc_ (.cells #[.string x.k, .string x.v, .bool x.g] 93)) 0 rfl rfl _ _ [.string x.k, .string x.v, .bool x.g] rfl rfl (block_cells (heap_alloc_new _ _)) (by intro u hu; simp at hu; rcases hu with rfl | rfl | rfl <;> rfl) hMl.out ?_; intro v5 w5 h5 hv5; have hp5 := Lib.hid h5; clear h5; obtain ⟨b5, cp5, rfl⟩ := hv5))
                go_roundw
                case rel => exact ⟨j + 1, _, _, by go_num, by omega, by rw [hfs.out, List.length_append]; rfl, by rw [hfs.out, chC_snoc, List.length_append]; exact hp5.out⟩
                case measure => simp [intOf]; omega
              | false =>
                obtain ⟨q1, q2, q3⟩ := empty_facts hb2
                rw [hb2] at hwx
                clear hb2
                cases hb3 : lt x.k a2 with
                | true =>
                  have r3 : Op.bytesLess x.k.toList a2.toList = true := hb3
                  rw [hb3] at hwx
                  rw [hwx, if_pos (by simp)] at hfs
                  replace hfs := Lib.hid hfs
                  clear hb3 hwx
                  go_wp2_with (at_builtin; go_loud (refine wpList_append_hp rfl _ _ rfl Try.underlying89 eInfo rfl (by decide) (by decide) (hq.out.alloc_ (.cells #[.string x.k, .string x.v, .bool x.g] 93)) 0 rfl rfl _ _ [.string x.k, .string x.v, .bool x.g] rfl rfl (block_cells (heap_alloc_new _ _)) (by intro u hu; simp at hu; rcases hu with rfl | rfl | rfl <;> rfl) hMl.out ?_; intro v5 w5 h5 hv5; have hp5 := Lib.hid h5; clear h5; obtain ⟨b5, cp5, rfl⟩ := hv5))
                  go_roundw
                  case rel => exact ⟨j + 1, _, _, by go_num, by omega, by rw [hfs.out, List.length_append]; rfl, by rw [hfs.out, chC_snoc, List.length_append]; exact hp5.out⟩
                  case measure => simp [intOf]; omega
                | false =>
                  have r3 : Op.bytesLess x.k.toList a2.toList = false := hb3
                  rw [hb3] at hwx
                  rw [hwx, if_neg (by simp)] at hfs
                  replace hfs := Lib.hid hfs
                  clear hb3 hwx
                  go_wp2
                  go_roundw
                  case rel => exact ⟨j + 1, ad2, cp2, by go_num, by omega, by rw [hfs.out, List.append_nil], by rw [hfs.out, List.append_nil]; exact hq.out⟩
                  case measure => simp [intOf]; omega
          · obtain rfl : n = j := by omega
            rw [List.take_of_length_le (by rw [← hln.out]; exact Nat.le_refl _), ← hF.out] at hq ⊢
            replace hq := Lib.hid hq
            go_wp2_with (first
              | (go_at_call 53; (with_reducible refine (haw.out _).mono ?_); rintro e w7 ⟨rfl, b7⟩; replace hq := Lib.hid (hq.out.below b7); clear b7)
              | (go_at_call 55; (with_reducible refine (hall.out _ _ hq.out rfl).mono ?_); rintro e w7 ⟨v7, rfl, ⟨ad7, cp7, rfl⟩, h7⟩; replace hq := Lib.hid h7; clear h7)
              | (go_at_call 56; (with_reducible refine (hrng.out _ _ hq.out rfl).mono ?_); rintro e w7 ⟨v7, rfl, ⟨ad8, cp8, rfl⟩, h7⟩; replace hq := Lib.hid h7; clear h7)
              | (go_at_call 54; ((with_reducible refine (hsamL.out _ _ _ (hq.out.sl (i := 0) rfl hnS.out) (hq.out.sl (i := 2) rfl hnS.out)).mono ?_); rintro e w7 ⟨rfl, b7⟩; replace hq := Lib.hid (hq.out.below b7); clear b7))
              | (go_at_call 54; (with_reducible refine (hsamF.out _ _ _ (hq.out.sl (i := 0) rfl hFS.out) (hq.out.sl (i := 2) rfl hFS.out)).mono ?_); rintro e w7 ⟨rfl, b7⟩; replace hq := Lib.hid (hq.out.below b7); clear b7))
            go_ret
            exact ⟨rfl, hq.out.bel⟩
      case inr =>
        go_upto_region 13 with fail
        replace hp := Lib.hid (hp.out.rowLit #[] 93 3 0 (by decide) rfl)
        go_wp2
        go_loopw [13, 14] (fun s13 s14 wz => ∃ (j : Nat) (ad2 : Option Addr) (cp2 : Nat), s14 = .int .i64 (j : Int) ∧ j ≤ n ∧ s13 = .slice ad2 ((L.take j).filter (wantB a1 a2)).length cp2 ∧ Hp w [] [.row 93 3 (.slice ad2 ((L.take j).filter (wantB a1 a2)).length cp2) ((L.take j).filter (wantB a1 a2)).length (chC ((L.take j).filter (wantB a1 a2))), .row 93 3 (.slice ad n cp) n (chC L), del d L] wz) (fun _ s14 _ => n - (intOf s14).toNat)
        case atStart => exact ⟨0, _, _, rfl, by omega, rfl, hp.out⟩
        case round =>
          obtain ⟨j, ad2, cp2, rfl, hj, rfl, hq⟩ := hrel
          by_cases hjn : j < n
          · obtain ⟨x, hx⟩ : ∃ x, L[j]? = some x := ⟨_, List.getElem?_eq_getElem (by have := hln.out; omega)⟩
            obtain ⟨b, cap, hv, _, _⟩ := (hq.row (i := 1) rfl).form (by omega)
            injection hv with hv1 hv2 hv3
            subst hv1 hv3
            obtain ⟨y0, y1, y2⟩ := rowC (hq.row (i := 1) rfl) hx hln.out.symm
            have hfs := filter_snoc (wantB a1 a2) L j x hx
            have hMl := Lib.hid (show ((L.take j).filter (wantB a1 a2)).length < 100000000 from Nat.lt_of_le_of_lt (List.length_filter_le _ _) (by rw [List.length_take]; omega))
            obtain ⟨M, hM⟩ : ∃ M, M = (L.take j).filter (wantB a1 a2) := ⟨_, rfl⟩
            rw [← hM] at hq hfs hMl ⊢
            have hwx : wantB a1 a2 x = (!(lt x.k a1) && (eqB a2 ⟨#[]⟩ || lt x.k a2)) := rfl
            have t1 : (0 : Int) ≤ (j : Int) := by omega
            have t2 : (j : Int) < (n : Int) := by omega
            replace hq := Lib.hid hq
            clear hM hx
            cases hb1 : lt x.k a1 with
            | true =>
              have r1 : Op.bytesLess x.k.toList a1.toList = true := hb1
              rw [hb1] at hwx
              rw [hwx, if_neg (by simp)] at hfs
              replace hfs := Lib.hid hfs
              clear hb1 hwx
              go_wp2
              go_roundw
              case rel => exact ⟨j + 1, ad2, cp2, by go_num, by omega, by rw [hfs.out, List.append_nil], by rw [hfs.out, List.append_nil]; exact hq.out⟩
              case measure => simp [intOf]; omega
            | false =>
              have r1 : Op.bytesLess x.k.toList a1.toList = false := hb1
              rw [hb1] at hwx
              clear hb1
              cases hb2 : eqB a2 ⟨#[]⟩ with
              | true =>
                obtain ⟨q1, q2, q3⟩ := empty_facts' hb2
                rw [hb2] at hwx
                rw [hwx, if_pos (by simp)] at hfs
                replace hfs := Lib.hid hfs
                clear hb2 hwx
                go_wp2_with (at_builtin; go_loud (refine wpList_append_hp rfl _ _ rfl Try.underlying89 eInfo rfl (by decide) (by decide) (hq.out.alloc_ (.cells #[.string x.k, .string x.v, .bool x.g] 93)) 0 rfl rfl _ _ [.string x.k, .string x.v, .bool x.g] rfl rfl (block_cells (heap_alloc_new _ _)) (by intro u hu; simp at hu; rcases hu with rfl | rfl | rfl <;> rfl) hMl.out ?_; intro v5 w5 h5 hv5; have hp5 := Lib.hid h5; clear h5; obtain ⟨b5, cp5, rfl⟩ := hv5))
                go_roundw
                case rel => exact ⟨j + 1, _, _, by go_num, by omega, by rw [hfs.out, List.length_append]; rfl, by rw [hfs.out, chC_snoc, List.length_append]; exact hp5.out⟩
                case measure => simp [intOf]; omega
              | false =>
                obtain ⟨q1, q2, q3⟩ := empty_facts hb2
                rw [hb2] at hwx
                clear hb2
                cases hb3 : lt x.k a2 with
                | true =>
                  have r3 : Op.bytesLess x.k.toList a2.toList = true := hb3
                  rw [hb3] at hwx
                  rw [hwx, if_pos (by simp)] at hfs
                  replace hfs := Lib.hid hfs
                  clear hb3 hwx
                  go_wp2_with (at_builtin; go_loud (refine wpList_append_hp rfl _ _ rfl Try.underlying89 eInfo rfl (by decide) (by decide) (hq.out.alloc_ (.cells #[.string x.k, .string x.v, .bool x.g] 93)) 0 rfl rfl _ _ [.string x.k, .string x.v, .bool x.g] rfl rfl (block_cells (heap_alloc_new _ _)) (by intro u hu; simp at hu; rcases hu with rfl | rfl | rfl <;> rfl) hMl.out ?_; intro v5 w5 h5 hv5; have hp5 := Lib.hid h5; clear h5; obtain ⟨b5, cp5, rfl⟩ := hv5))
                  go_roundw
                  case rel => exact ⟨j + 1, _, _, by go_num, by omega, by rw [hfs.out, List.length_append]; rfl, by rw [hfs.out, chC_snoc, List.length_append]; exact hp5.out⟩
                  case measure => simp [intOf]; omega
                | false =>
                  have r3 : Op.bytesLess x.k.toList a2.toList = false := hb3
                  rw [hb3] at hwx
                  rw [hwx, if_neg (by simp)] at hfs
                  replace hfs := Lib.hid hfs
                  clear hb3 hwx
                  go_wp2
                  go_roundw
                  case rel => exact ⟨j + 1, ad2, cp2, by go_num, by omega, by rw [hfs.out, List.append_nil], by rw [hfs.out, List.append_nil]; exact hq.out⟩
                  case measure => simp [intOf]; omega
          · obtain rfl : n = j := by omega
            rw [List.take_of_length_le (by rw [← hln.out]; exact Nat.le_refl _), ← hF.out] at hq ⊢
            replace hq := Lib.hid hq
            go_wp2_with (first
              | (go_at_call 53; (with_reducible refine (haw.out _).mono ?_); rintro e w7 ⟨rfl, b7⟩; replace hq := Lib.hid (hq.out.below b7); clear b7)
              | (go_at_call 55; (with_reducible refine (hall.out _ _ hq.out rfl).mono ?_); rintro e w7 ⟨v7, rfl, ⟨ad7, cp7, rfl⟩, h7⟩; replace hq := Lib.hid h7; clear h7)
              | (go_at_call 56; (with_reducible refine (hrng.out _ _ hq.out rfl).mono ?_); rintro e w7 ⟨v7, rfl, ⟨ad8, cp8, rfl⟩, h7⟩; replace hq := Lib.hid h7; clear h7)
              | (go_at_call 54; ((with_reducible refine (hsamL.out _ _ _ (hq.out.sl (i := 0) rfl hnS.out) (hq.out.sl (i := 2) rfl hnS.out)).mono ?_); rintro e w7 ⟨rfl, b7⟩; replace hq := Lib.hid (hq.out.below b7); clear b7))
              | (go_at_call 54; (with_reducible refine (hsamF.out _ _ _ (hq.out.sl (i := 0) rfl hFS.out) (hq.out.sl (i := 2) rfl hFS.out)).mono ?_); rintro e w7 ⟨rfl, b7⟩; replace hq := Lib.hid (hq.out.below b7); clear b7))
            go_ret
            exact ⟨rfl, hq.out.bel⟩
end Go.Proofs.Ytmfodnbhhfegeaa.delta
