/- delta.Put: a change among the others, in its place. No condition but the rising keys. -/
import Derived.Test.YtmfodnbhhfegeaaDelIns
import Derived.BigRegion
import Derived.Deep.CutBlock
import Derived.Deep.DeepCutAuto
namespace Go.Proofs.Ytmfodnbhhfegeaa.delta
open Go.RowKit
attribute [local go_sem ↓] Go.wp_at_zero Go.wp_at_succ
set_option linter.unusedVariables false
set_option maxRecDepth 100000

theorem chC_set (c : Ch) : ∀ (l : List Ch) (i : Nat), i < l.length → (((chC l).set (i * 3) (.string c.k)).set (i * 3 + 1) (.string c.v)).set (i * 3 + 2) (.bool c.g) = chC (l.set i c)
  | [], i, h => by simp at h
  | x :: t, 0, _ => by simp [chC, Ch.c]
  | x :: t, i + 1, h => by
    have ih := chC_set c t i (by simpa using h)
    have e : (i + 1) * 3 = i * 3 + 3 := by omega
    rw [e, List.set_cons_succ]
    show (((.string x.k :: .string x.v :: .bool x.g :: chC t).set (i * 3 + 3) _).set (i * 3 + 3 + 1) _).set (i * 3 + 3 + 2) _ = (.string x.k :: .string x.v :: .bool x.g :: chC (t.set i c))
    rw [← ih]
    simp [List.set_cons_succ]
theorem empty_facts {k : ByteArray} (h : eqB k ⟨#[]⟩ = false) : (k.toList == []) = false ∧ ¬ k.toList = [] ∧ k.toList.isEmpty = false := by
  have e : (⟨#[]⟩ : ByteArray).toList = [] := by rw [ByteArray.toList_eq]
  unfold eqB at h
  rw [e] at h
  refine ⟨h, by simpa using h, ?_⟩
  cases q : k.toList with
  | nil => rw [q] at h; cases h
  | cons a b => rfl
theorem rowC {W : World} {b n cp i : Nat} {L : List Ch} {x : Ch} (h : W.ownsRow 0 93 3 (.slice (some ⟨b, 0, none⟩) n cp) n (chC L)) (hx : L[i]? = some x) (hn : L.length = n) :
    W.cell? ⟨b, i * 3, none⟩ = some (.string x.k) ∧ W.cell? ⟨b, i * 3 + 1, none⟩ = some (.string x.v) ∧ W.cell? ⟨b, i * 3 + 2, none⟩ = some (.bool x.g) := by
  have hi := (List.getElem?_eq_some_iff.1 hx).1
  have f := flat_at Ch.c 3 Ch.c_len L i x hx
  exact ⟨(h.cellAt (i * 3) (by omega)).trans (f 0 (by decide)), (h.cellAt (i * 3 + 1) (by omega)).trans (f 1 (by decide)), (h.cellAt (i * 3 + 2) (by omega)).trans (f 2 (by decide))⟩
theorem put_any (d : Nat) (L : List Ch) (c : Ch) (w : World) (fp : List Nat) (h : (Rs.bxrow 144 93 3 d L.length (chC L)).holds w fp) (hs : Srt L) (hn : L.length ≤ 90000) (hk : eqB c.k ⟨#[]⟩ = false) :
    Calls Try.prog 49 #[.pointer (some ⟨d, 0, none⟩), c.a] w fun e w' => e = .returned (.tuple #[]) ∧ Hp w fp [Rs.bxrow 144 93 3 d (putL c L).length (chC (putL c L))] w' := by
  obtain ⟨v, hp⟩ := Hp.openRow h
  have hp1 := hp.alloc #[.string c.k, .string c.v, .bool c.g] 93
  obtain ⟨e1, e2, e3⟩ := empty_facts hk
  have hpl := place_any d c.k v L _ (hp1.box (i := 1) rfl) (hp1.sl (i := 2) rfl (by omega)) (by omega) hs
  obtain ⟨P, hP⟩ : ∃ P, P = pos c.k L := ⟨_, rfl⟩
  have hPl : P ≤ L.length := by rw [hP]; exact pos_le _ _
  rw [← hP] at hpl
  have d0 := hp1.cell (i := 0) rfl 0
  simp at d0
  obtain ⟨ad, cp, rfl⟩ := rowShape (hp1.row (i := 2) rfl)
  obtain ⟨k, vv, g⟩ := c
  unfold Ch.a
  simp only at *
  replace hpl := Lib.hid hpl; replace hp1 := Lib.hid hp1; replace hs := Lib.hid hs; replace hP := Lib.hid hP
  clear h hp hk
  go_enter Try.func49, Try.ntmps49
  go_upto_region 3 with (go_at_call 97; (with_reducible refine (hpl.out).mono ?_); rintro e w1 ⟨rfl, b1⟩; replace hp1 := Lib.hid (hp1.out.below b1); clear b1)
  have x0 := hp1.out.cell (i := 0) rfl 0; have x1 := hp1.out.cell (i := 0) rfl 1; have x2 := hp1.out.cell (i := 0) rfl 2; have m0 := hp1.out.cell (i := 1) rfl 0
  simp at x0 x1 x2 m0
  clear hpl d0 e1 e2 e3
  go_cut [35] from 16 to 35 (fun s35 wx => s35 = .bool (atB k L) ∧ Hp w fp [.box w.heap.size #[.string k, .string vv, .bool g] 93, .box d #[.slice ad L.length cp] 144, .row 93 3 (.slice ad L.length cp) L.length (chC L)] wx)
  case first =>
    by_cases hlt : P < L.length
    · obtain ⟨x, hx⟩ : ∃ x, L[P]? = some x := ⟨_, List.getElem?_eq_getElem hlt⟩
      obtain ⟨b, cap, hv, _, _⟩ := (hp1.out.row (i := 2) rfl).form (by omega)
      injection hv with hv1 hv2 hv3
      subst hv1 hv3
      obtain ⟨y0, _, _⟩ := rowC (hp1.out.row (i := 2) rfl) hx rfl
      have hat : atB k L = eqB x.k k := by unfold atB; rw [← hP.out, hx]
      obtain ⟨n, hln⟩ : ∃ n, n = L.length := ⟨_, rfl⟩
      have hp3 := hp1.out
      rw [← hln] at hlt m0
      have g1 : (0 : Int) ≤ (P : Int) := by omega
      have g2 : (P : Int) < (n : Int) := by omega
      replace hp3 := Lib.hid hp3; replace hln := Lib.hid hln
      cases hq : eqB x.k k with
      | true =>
        have hq1 : (x.k.toList == k.toList) = true := hq
        replace hat := Lib.hid (hat.trans hq)
        clear hx hP hp1 hPl hq
        go_quiet (fail)
        go_wp2
        go_meet
        exact ⟨by rw [hat.out], hp3.out.drewN _⟩
      | false =>
        have hq1 : (x.k.toList == k.toList) = false := hq
        replace hat := Lib.hid (hat.trans hq)
        clear hx hP hp1 hPl hq
        go_quiet (fail)
        go_wp2
        go_meet
        exact ⟨by rw [hat.out], hp3.out.drewN _⟩
    · have hPe : P = L.length := by omega
      have hat : atB k L = false := by
        unfold atB
        rw [← hP.out, List.getElem?_eq_none (by omega)]
      obtain ⟨n, hln⟩ : ∃ n, n = L.length := ⟨_, rfl⟩
      rw [← hln] at hlt m0
      have g2 : decide ((P : Int) < (n : Int)) = false := by simp; omega
      have g3 : decide (P < n) = false := by simp; omega
      have hp3 := hp1
      replace hat := Lib.hid hat
      clear hP hp1 hPl hPe hlt
      replace hln := Lib.hid hln
      go_quiet (fail)
      go_wp2
      go_meet
      exact ⟨by rw [hat.out], hp3.out.drewN _⟩
  case rest =>
    obtain ⟨rfl, hp2⟩ := hcut
    replace hp2 := Lib.hid hp2
    clear x0 x1 x2 m0 hp1
    have x0 := hp2.out.cell (i := 0) rfl 0; have x1 := hp2.out.cell (i := 0) rfl 1; have x2 := hp2.out.cell (i := 0) rfl 2; have m0 := hp2.out.cell (i := 1) rfl 0
    simp at x0 x1 x2 m0
    cases hat : atB k L with
    | true =>
      obtain ⟨x, hx⟩ : ∃ x, L[P]? = some x := by
        unfold atB at hat
        rw [← hP.out] at hat
        cases q : L[P]? with
        | none => rw [q] at hat; cases hat
        | some x => exact ⟨x, rfl⟩
      have hlt := (List.getElem?_eq_some_iff.1 hx).1
      obtain ⟨b, cap, hv, _, _⟩ := (hp2.out.row (i := 2) rfl).form (by omega)
      injection hv with hv1 hv2 hv3
      subst hv1 hv3
      obtain ⟨y0, y1, y2⟩ := rowC (hp2.out.row (i := 2) rfl) hx rfl
      have z0 := rowFree (hp2.out.row (i := 2) rfl) (P * 3); have z1 := rowFree (hp2.out.row (i := 2) rfl) (P * 3 + 1); have z2 := rowFree (hp2.out.row (i := 2) rfl) (P * 3 + 2)
      have hput := put_at ⟨k, vv, g⟩ L hat
      have hfin := ((hp2.out.rowPut (i := 2) rfl (P * 3) (.string k)).rowPut (i := 2) rfl (P * 3 + 1) (.string vv)).rowPut (i := 2) rfl (P * 3 + 2) (.bool g)
      simp only [List.set_cons_zero, List.set_cons_succ] at hfin
      rw [chC_set ⟨k, vv, g⟩ L P hlt] at hfin
      have hset : putL ⟨k, vv, g⟩ L = L.set P ⟨k, vv, g⟩ := by rw [hput, hP.out]
      have hlen : (putL ⟨k, vv, g⟩ L).length = L.length := by rw [hset, List.length_set]
      have hfin2 := (hfin.drop 0).shutRow
      rw [← hset, ← hlen] at hfin2
      have hfin3 := Lib.hid hfin2.drew
      obtain ⟨n, hln⟩ : ∃ n, n = L.length := ⟨_, rfl⟩
      rw [← hln] at hlt m0
      have g1 : (0 : Int) ≤ (P : Int) := by omega
      have g2 : (P : Int) < (n : Int) := by omega
      clear hfin hfin2 hset hlen hput hx hp2 hP hln hat hPl hn hlt
      go_wp2
      go_region
      go_wp2
      exact bodyPost_ret (v := .tuple #[]) (results_none rfl _ _ _) rfl ⟨rfl, hfin3.out⟩
    | false =>
      have hput := put_new ⟨k, vv, g⟩ L hat
      have hput2 : putL ⟨k, vv, g⟩ L = L.take P ++ ⟨k, vv, g⟩ :: L.drop P := by rw [hput, hP.out]
      have hlen : (putL ⟨k, vv, g⟩ L).length = L.length + 1 := by rw [hput2]; simp; omega
      have hpB := (hp2.out.alloc #[.string k, .string vv, .bool g] 93).drew
      have hq0 := hpB.box (i := 0) rfl
      have hqv : (Value.slice ad L.length cp).ownBlock ≠ some wc.heap.size := fun e => by
        have := (World.ownsRow.lt (hp2.out.row (i := 2) rfl) _ e).2
        omega
      have hins := insert_any (.slice ad L.length cp) P wc.heap.size L ⟨k, vv, g⟩ _ (hpB.row (i := 3) rfl) hPl (by omega) hq0 hqv
      rw [← hput2, ← hlen] at hins
      have m1 := hpB.cell (i := 2) rfl 0
      simp at m1
      obtain ⟨n, hln⟩ : ∃ n, n = L.length := ⟨_, rfl⟩
      obtain ⟨R, hR⟩ : ∃ R, R = putL ⟨k, vv, g⟩ L := ⟨_, rfl⟩
      rw [← hR] at hins
      replace hR := Lib.hid hR
      rw [← hln] at m0 m1 hins hpB
      replace hins := Lib.hid hins; replace hpB := Lib.hid hpB
      clear hqv hq0 hlen hput2 hput hp2 hP hat hPl hn hln
      go_wp2
      go_region_with (go_at_call 98; (with_reducible refine (hins.out).mono ?_); rintro e w6 ⟨v', rfl, h6⟩; obtain ⟨ad6, cp6, rfl⟩ := rowShape (h6.row (i := 0) rfl); replace hpB := Lib.hid (hpB.out.turn (i := 3) rfl (fun fp hr => hr.2 ▸ h6)); clear h6; have m6 := hpB.out.cell (i := 2) rfl 0; have f6 := hpB.out.free (i := 2) rfl 0; simp at m6)
      all_goals go_wp2
      all_goals go_end0
      all_goals exact ⟨rfl, by rw [← hR.out]; exact (((hpB.out.put (i := 2) rfl 0 _).drop 0).drop 0).shutRow⟩
end Go.Proofs.Ytmfodnbhhfegeaa.delta
