/- The law of indexes added and dropped, whole. No condition. -/
import Derived.Test.YtdgpalileloekaaSchemaQ
import Derived.Test.YtdgpalileloekaaSchema9
import Derived.Test.YtdgpalileloekaaSchemaL
import Derived.Test.YtdgpalileloekaaAppS
import Derived.Test.YtdgpalileloekaaRowSet
import Derived.Test.YtdgpalileloekaaRegSeq
namespace Go.Proofs.Ytdgpalileloekaa.schema
open Go.RowKit
attribute [local go_sem ↓] Go.wp_at_zero Go.wp_at_succ
set_option linter.unusedVariables false
set_option maxRecDepth 100000

theorem argAct {w : World} {a : Option Addr} {len : Nat} (h : SliceArg w a len 4 (fun j v => match j with | 0 => ∃ x, v = .int .i64 x ∧ (Lit.int .i64 x).wf = true | 1 => ∃ x, v = .int .i64 x ∧ (Lit.int .i64 x).wf = true | 2 => ∃ x, v = .int .i64 x ∧ (Lit.int .i64 x).wf = true | 3 => ∃ x, v = .bool x | _ => False)) (k : Nat) (hk : k ≤ len) :
    ∃ X : List (Ix × Bool), X.length = k ∧ ∀ (i : Nat) (x : Ix × Bool), X[i]? = some x → ∃ b o, a = some ⟨b, o, none⟩ ∧ b < w.heap.size ∧ w.cell? ⟨b, o + i * 4, none⟩ = some (.int .i64 x.1.l) ∧ w.cell? ⟨b, o + i * 4 + 1, none⟩ = some (.int .i64 x.1.k) ∧ w.cell? ⟨b, o + i * 4 + 2, none⟩ = some (.int .i64 x.1.d) ∧ w.cell? ⟨b, o + i * 4 + 3, none⟩ = some (.bool x.2) := by
  obtain ⟨X, hX, hR⟩ := list_of (fun i (x : Ix × Bool) => ∃ b o, a = some ⟨b, o, none⟩ ∧ b < w.heap.size ∧ w.cell? ⟨b, o + i * 4, none⟩ = some (.int .i64 x.1.l) ∧ w.cell? ⟨b, o + i * 4 + 1, none⟩ = some (.int .i64 x.1.k) ∧ w.cell? ⟨b, o + i * 4 + 2, none⟩ = some (.int .i64 x.1.d) ∧ w.cell? ⟨b, o + i * 4 + 3, none⟩ = some (.bool x.2)) k (fun i hi => by
    obtain ⟨_, h2⟩ := h
    obtain ⟨b, o, ha, hb, hc⟩ := h2.resolve_left (by omega)
    obtain ⟨v0, c0, x0, rfl, w0⟩ := hc i (by omega) 0 (by omega)
    obtain ⟨v1, c1, x1, rfl, w1⟩ := hc i (by omega) 1 (by omega)
    obtain ⟨v2, c2, x2, rfl, w2⟩ := hc i (by omega) 2 (by omega)
    obtain ⟨v3, c3, x3, rfl⟩ := hc i (by omega) 3 (by omega)
    exact ⟨⟨⟨x0, x1, x2⟩, x3⟩, b, o, ha, hb, by simpa using c0, c1, c2, c3⟩)
  exact ⟨X, hX, hR⟩
theorem rowAt' {W : World} {e : TypeId} {ad : Option Addr} {cp : Nat} {L : List Ix} (h : W.ownsRow 0 e 3 (.slice ad L.length cp) L.length (ixCells L)) {j : Nat} {y : Ix} (hy : L[j]? = some y) :
    ∃ g, ad = some ⟨g, 0, none⟩ ∧ W.cell? ⟨g, j * 3, none⟩ = some (.int .i64 y.l) ∧ W.cell? ⟨g, j * 3 + 1, none⟩ = some (.int .i64 y.k) ∧ W.cell? ⟨g, j * 3 + 2, none⟩ = some (.int .i64 y.d) := by
  have hj := (List.getElem?_eq_some_iff.1 hy).1
  obtain ⟨g, cap, hv, _, _⟩ := h.form (by omega)
  injection hv with hv1 hv2 hv3
  subst hv1 hv3
  have f := flat_at ixC 3 ixC_len L j y hy
  exact ⟨g, rfl, (h.cellAt (j * 3) (by omega)).trans (f 0 (by decide)), (h.cellAt (j * 3 + 1) (by omega)).trans (f 1 (by decide)), (h.cellAt (j * 3 + 2) (by omega)).trans (f 2 (by decide))⟩
theorem ixCells_drop (l : List Ix) : ∀ a, (ixCells l).drop (a * 3) = ixCells (l.drop a) := by
  induction l with
  | nil => intro a; simp [ixCells]
  | cons x t ih =>
    intro a
    cases a with
    | zero => simp
    | succ a =>
      rw [List.drop_succ_cons, ← ih a, show (a + 1) * 3 = a * 3 + 1 + 1 + 1 by omega]
      rfl
theorem ixCells_take (l : List Ix) : ∀ a, (ixCells l).take (a * 3) = ixCells (l.take a) := by
  induction l with
  | nil => intro a; simp [ixCells]
  | cons x t ih =>
    intro a
    cases a with
    | zero => simp [ixCells]
    | succ a =>
      rw [List.take_succ_cons, show (a + 1) * 3 = a * 3 + 1 + 1 + 1 by omega]
      show List.take _ (_ :: _ :: _ :: ixCells t) = _ :: _ :: _ :: ixCells (t.take a)
      rw [List.take_succ_cons, List.take_succ_cons, List.take_succ_cons, ih a]
theorem sl_part {W : World} {e : TypeId} {g cp : Nat} {L : List Ix} (h : W.ownsRow 0 e 3 (.slice (some ⟨g, 0, none⟩) L.length cp) L.length (ixCells L)) (a k c : Nat) (hk : a + k ≤ L.length) (hn : L.length ≤ 1000) :
    Sl W (.slice (some ⟨g, a * 3, none⟩) k c) k (ixCells ((L.drop a).take k)) := by
  refine ⟨_, _, rfl, by omega, .inr ⟨_, _, rfl, rowLt h, fun j v hj => ?_⟩⟩
  rw [← ixCells_take, ← ixCells_drop] at hj
  rw [List.getElem?_take] at hj
  split at hj
  · rename_i h2
    rw [List.getElem?_drop] at hj
    exact (h.cellAt (a * 3 + j) (by omega)).trans hj
  · cases hj
theorem in_lt {x : Ix} {L : List Ix} (h : inI x L = true) : posI x L < L.length := by
  unfold inI at h
  cases q : L[posI x L]? with
  | none => rw [q] at h; cases h
  | some y => exact (List.getElem?_eq_some_iff.1 q).1
theorem boxc {w W : World} {X : List Nat} {rs : List Rs} {g : Nat} {a b c : Value} {t : TypeId} {i : Nat} (h : Hp w X rs W) (hi : rs[i]? = some (.box g #[a, b, c] t)) : W.cell? ⟨g, 0, none⟩ = some a ∧ W.cell? ⟨g, 1, none⟩ = some b ∧ W.cell? ⟨g, 2, none⟩ = some c :=
  ⟨by simpa using h.cell hi 0, by simpa using h.cell hi 1, by simpa using h.cell hi 2⟩
theorem add_no (L : List Ix) (x : Ix) (h : mayB x = false ∨ L.filter (same x.l x.k) ≠ []) : addL L x = (L, 1) := by unfold addL; rw [if_pos h]
theorem add_fl (L : List Ix) (x : Ix) (h : mayB x = true) (h2 : L.filter (same x.l x.k) = []) (h3 : 32 ≤ L.length) : addL L x = (L, 5) := by unfold addL; rw [if_neg (by simp [h, h2]), if_pos h3]
theorem add_yes (L : List Ix) (x : Ix) (h : mayB x = true) (h2 : L.filter (same x.l x.k) = []) (h3 : ¬ 32 ≤ L.length) : addL L x = (aheadL L x ++ [x] ++ behindL L x, 0) := by unfold addL; rw [if_neg (by simp [h, h2]), if_neg h3]
theorem argInt {w : World} {a : Option Addr} {len : Nat} (h : SliceArg w a len 1 (fun _ v => ∃ x, v = .int .i64 x ∧ (Lit.int .i64 x).wf = true)) (k : Nat) (hk : k ≤ len) (hk20 : k ≤ 20) :
    ∃ X : List Int, X.length = k ∧ ∀ W, Below w.heap.size w W → ∀ c, Sl W (.slice a k c) k (iC X) := by
  have hl := h.1
  obtain ⟨X, hX, hR⟩ := list_of (fun i (x : Int) => ∃ b o, a = some ⟨b, o, none⟩ ∧ b < w.heap.size ∧ w.cell? ⟨b, o + i, none⟩ = some (.int .i64 x)) k (fun i hi => by
    obtain ⟨_, h2⟩ := h
    obtain ⟨b, o, ha, hb, hc⟩ := h2.resolve_left (by omega)
    obtain ⟨v0, c0, x0, rfl, w0⟩ := hc i (by omega) 0 (by omega)
    exact ⟨x0, b, o, ha, hb, by simpa using c0⟩)
  refine ⟨X, hX, fun W hb c => ?_⟩
  by_cases h0 : k = 0
  · exact ⟨_, _, rfl, by omega, .inl h0⟩
  · obtain ⟨x0, hx0⟩ : ∃ x, X[0]? = some x := ⟨_, List.getElem?_eq_getElem (by omega)⟩
    obtain ⟨b, o, rfl, hbw, _⟩ := hR 0 x0 hx0
    refine ⟨_, _, rfl, by omega, .inr ⟨b, o, rfl, Nat.lt_of_lt_of_le hbw hb.size, fun j v hj => ?_⟩⟩
    unfold iC at hj
    rw [List.getElem?_map] at hj
    cases hx : X[j]? with
    | none => rw [hx] at hj; cases hj
    | some x =>
      rw [hx] at hj
      obtain ⟨b', o', he, _, hc⟩ := hR j x hx
      injection he with he; injection he with h1 h2 _
      subst h1 h2
      simp at hj
      rw [← hj]
      exact (hb.cell hbw).trans hc
set_option maxHeartbeats 8000000 in
theorem schemaPlays_walk (a0 : Option Addr) (len0 cap0 : Nat) (a1 : Option Addr) (len1 cap1 : Nat) (w : World) (w0 : SliceArg w a0 len0 4 (fun j v => match j with | 0 => ∃ x, v = .int .i64 x ∧ (Lit.int .i64 x).wf = true | 1 => ∃ x, v = .int .i64 x ∧ (Lit.int .i64 x).wf = true | 2 => ∃ x, v = .int .i64 x ∧ (Lit.int .i64 x).wf = true | 3 => ∃ x, v = .bool x | _ => False)) (w1 : SliceArg w a1 len1 1 (fun _ v => ∃ x, v = .int .i64 x ∧ (Lit.int .i64 x).wf = true)) (k1 : len1 ≤ cap1 ∧ cap1 ≤ 9223372036854775807) :
    Calls Try.prog 7 #[.slice a0 len0 cap0, .slice a1 len1 cap1] w fun e w' => e = .returned (.bool true) ∧ Below w.heap.size w w' := by
  obtain ⟨K, hK⟩ : ∃ K, K = min len0 60 := ⟨_, rfl⟩
  obtain ⟨X, hX, hR⟩ := argAct w0 K (by omega)
  have hl63 := w0.1
  have hK60 : K ≤ 60 := by omega
  have hKl : K ≤ len0 := by omega
  have hKe : K = len0 ∨ K = 60 := by omega
  clear hK
  have haw := fun W => awake_any W
  have hp := ((Hp.none_ w []).rowNil 73 3).rowLit #[] 73 3 0 (by decide) rfl
  replace hX := Lib.hid hX; replace hR := Lib.hid hR; replace hp := Lib.hid hp; replace haw := Lib.hid haw; have hlab := Lib.hid w1
  clear w0 w1
  go_enter Try.func7, Try.ntmps7
  go_wp2_with (go_at_call 32; (with_reducible refine (haw.out _).mono ?_); rintro e w1 ⟨rfl, b1⟩; replace hp := Lib.hid (hp.out.below b1); clear b1)
  go_loopw [5, 6, 7] (fun s5 s6 s7 wr => ∃ (i : Nat) (L : List Ix) (ad : Option Addr) (cp : Nat) (ad2 : Option Addr) (cp2 : Nat), s7 = .int .i64 (i : Int) ∧ i ≤ K ∧ s5 = .slice ad L.length cp ∧ s6 = .slice ad2 L.length cp2 ∧ SI L ∧ (∀ x ∈ L, mayB x = true) ∧ L.length ≤ 32 ∧ (L = [] ∨ 0 < i) ∧ Hp w [] [.row 73 3 (.slice ad2 L.length cp2) L.length (ixCells L), .row 73 3 (.slice ad L.length cp) L.length (ixCells L)] wr) (fun _ _ s7 _ => K - (intOf s7).toNat)
  case atStart => exact ⟨0, [], _, _, _, _, rfl, by omega, rfl, rfl, by simp [SI], by simp, by simp, .inl rfl, hp.out⟩
  case round =>
    clear hp
    obtain ⟨i, L, ad, cp, ad2, cp2, rfl, hi, rfl, rfl, hs, hm, hL32, hL0, hp⟩ := hrel
    by_cases hlt : i < K
    · have g1 : (i : Int) < (len0 : Int) := by omega
      have g2 : (i : Int) < 60 := by omega
      have g3 : (0 : Int) ≤ (i : Int) := by omega
      obtain ⟨xa, hx⟩ : ∃ x, X[i]? = some x := ⟨_, List.getElem?_eq_getElem (by have := hX.out; omega)⟩
      obtain ⟨b, o, rfl, hbw, c0, c1, c2, c3⟩ := hR.out i xa hx
      have d3x : ∀ W, Below w.heap.size w W → W.cell? ⟨b, o + i * 4 + 3, none⟩ = some (.bool xa.2) := fun W hb => (hb.cell hbw).trans c3
      have d0 := (hp.bel.cell (p := ⟨b, o + i * 4, none⟩) hbw).trans c0
      have d1 := (hp.bel.cell (p := ⟨b, o + i * 4 + 1, none⟩) hbw).trans c1
      have d2 := (hp.bel.cell (p := ⟨b, o + i * 4 + 2, none⟩) hbw).trans c2
      have hfew := fun W => few_any xa.1 W
      obtain ⟨⟨xl, xk, xd⟩, gone⟩ := xa
      obtain ⟨x, hxe⟩ : ∃ x, x = fewI ⟨xl, xk, xd⟩ := ⟨_, rfl⟩
      simp only at hfew d0 d1 d2 d3x
      rw [← hxe] at hfew
      clear hxe c0 c1 c2 c3 hx hbw
      obtain ⟨yl, yk, yd⟩ := x
      unfold Ix.v at hfew
      simp only at hfew
      obtain ⟨x, hxx⟩ : ∃ x : Ix, x = ⟨yl, yk, yd⟩ := ⟨_, rfl⟩
      have hxl : x.l = yl := by rw [hxx]
      have hxk : x.k = yk := by rw [hxx]
      have hxd : x.d = yd := by rw [hxx]
      replace hxx := Lib.hid hxx; replace hxl := Lib.hid hxl; replace hxk := Lib.hid hxk; replace hxd := Lib.hid hxd
      replace hfew := Lib.hid hfew; replace d3x := Lib.hid d3x; replace hs := Lib.hid hs; replace hm := Lib.hid hm; replace hp := Lib.hid hp; replace hL0 := Lib.hid hL0
      go_wp2_with (go_at_call 33; (with_reducible refine (hfew.out _).mono ?_); rintro e w2 ⟨rfl, b2⟩; replace hp := Lib.hid ((hp.out.below b2).alloc #[.int .i64 yl, .int .i64 yk, .int .i64 yd] 73); clear b2)
      generalize hsz : w2.heap.size = q at hp ⊢
      generalize w2.alloc _ = W9 at hp ⊢
      replace hsz := Lib.hid hsz
      clear d0 d1 d2
      obtain ⟨P, hP⟩ : ∃ P, P = posI x L := ⟨_, rfl⟩
      have hPl := posI_le x L
      rw [← hP] at hPl
      obtain ⟨n, hn⟩ : ∃ n, n = L.length := ⟨_, rfl⟩
      have hPn : P ≤ n := by omega
      replace hP := Lib.hid hP; replace hn := Lib.hid hn
      go_loopw [9] (fun s9 wz => ∃ j : Nat, s9 = .int .i64 (j : Int) ∧ j ≤ P ∧ Hp w [] [.box q #[.int .i64 yl, .int .i64 yk, .int .i64 yd] 73, .row 73 3 (.slice ad2 L.length cp2) L.length (ixCells L), .row 73 3 (.slice ad L.length cp) L.length (ixCells L)] wz) (fun s9 _ => P - (intOf s9).toNat)
      case atStart => exact ⟨0, rfl, by omega, hp.out⟩
      case round =>
        clear hp
        obtain ⟨j, rfl, hj, hq⟩ := hrel
        replace hq := Lib.hid hq
        go_upto_region 9 with fail
        go_cut [73] from 40 to 73 (fun s73 wx => s73 = .bool (decide (j < P)) ∧ Hp w [] [.box q #[.int .i64 yl, .int .i64 yk, .int .i64 yd] 73, .row 73 3 (.slice ad2 L.length cp2) L.length (ixCells L), .row 73 3 (.slice ad L.length cp) L.length (ixCells L)] wx)
        case first => --done
          have x0 := hq.out.cell (i := 0) rfl 0; have x1 := hq.out.cell (i := 0) rfl 1
          simp at x0 x1
          have q1 : (0 : Int) ≤ (j : Int) := by omega
          cases hy : L[j]? with
          | none =>
            have hjn : L.length ≤ j := List.getElem?_eq_none_iff.1 hy
            have hd : decide (j < P) = false := by simp; omega
            have q2 : decide ((j : Int) < (L.length : Int)) = false := by simp; omega
            have q2' : decide (j < L.length) = false := by simp; omega
            replace hd := Lib.hid hd; try clear hli hln
            clear hy
            go_quiet (fail)
            go_wp2
            go_meet
            exact ⟨by rw [hd.out], hq.out.drewN _⟩
          | some y =>
            have hjn := (List.getElem?_eq_some_iff.1 hy).1
            obtain ⟨g, hg, y0, y1, y2⟩ := rowAt' (hq.out.row (i := 1) rfl) hy
            subst hg
            have q2 : (j : Int) < (L.length : Int) := by omega
            have hjl : decide (j < P) = lessB y x := by
              by_cases h : j < P
              · rw [decide_eq_true h, posI_less x L j y (by rw [← hP.out]; exact h) hy]
              · obtain rfl : j = P := by omega
                rw [posI_at x L y (by rw [← hP.out]; exact hy)]; simp
            have hli := lessB_iff y x
            have hln := lessB_no y x
            rw [← hjl, hxl.out, hxk.out] at hli hln
            clear hjl
            by_cases h1 : y.l < yl
            · have hd : decide (j < P) = true := hli.2 (by omega)
              replace hd := Lib.hid hd; try clear hli hln
              have t1 : decide (y.l < yl) = true := by simpa using h1
              clear hy
              go_quiet (fail)
              go_wp2
              go_meet
              exact ⟨by rw [hd.out], hq.out.drewN _⟩
            · have t1 : decide (y.l < yl) = false := by simpa using h1
              by_cases h2 : y.l = yl
              · have t2 : (y.l == yl) = true := by simpa using h2
                by_cases h3 : y.k < yk
                · have t3 : decide (y.k < yk) = true := by simpa using h3
                  have hd : decide (j < P) = true := hli.2 (by omega)
                  replace hd := Lib.hid hd; try clear hli hln
                  clear hy h1
                  go_quiet (fail)
                  go_wp2
                  go_meet
                  exact ⟨by rw [hd.out], hq.out.drewN _⟩
                · have t3 : decide (y.k < yk) = false := by simpa using h3
                  have hd : decide (j < P) = false := hln.2 (by omega)
                  replace hd := Lib.hid hd; try clear hli hln
                  clear hy h1 h3
                  go_quiet (fail)
                  go_wp2
                  go_meet
                  exact ⟨by rw [hd.out], hq.out.drewN _⟩
              · have t2 : (y.l == yl) = false := by simpa using h2
                have hd : decide (j < P) = false := hln.2 (by omega)
                replace hd := Lib.hid hd; try clear hli hln
                clear hy h1 h2
                go_quiet (fail)
                go_wp2
                go_meet
                exact ⟨by rw [hd.out], hq.out.drewN _⟩
        obtain ⟨rfl, hq1⟩ := hcut
        replace hq := Lib.hid hq1
        clear hq1
        by_cases hjp : j < P
        · have hd := decide_eq_true hjp
          rw [hd]
          clear hd
          go_wp2
          go_roundw
          case rel => exact ⟨j + 1, by go_num, by omega, hq.out⟩
          case measure => simp [intOf]; omega
        · obtain rfl : j = P := by omega
          have hd : decide (j < j) = false := by simp
          rw [hd]
          clear hd
          go_upto_region 11 with fail
          obtain ⟨bi, hbi⟩ : ∃ bi, bi = inI x L := ⟨_, rfl⟩
          replace hbi := Lib.hid hbi
          go_cut [10] from 76 to 99 (fun s10 wx => s10 = .bool bi ∧ Hp w [] [.box q #[.int .i64 yl, .int .i64 yk, .int .i64 yd] 73, .row 73 3 (.slice ad2 L.length cp2) L.length (ixCells L), .row 73 3 (.slice ad L.length cp) L.length (ixCells L)] wx)
          case first => --done
            have x0 := hq.out.cell (i := 0) rfl 0; have x1 := hq.out.cell (i := 0) rfl 1
            simp at x0 x1
            have q1 : (0 : Int) ≤ (j : Int) := by omega
            cases hy : L[j]? with
            | none =>
              have hjn : L.length ≤ j := List.getElem?_eq_none_iff.1 hy
              have hd : inI x L = false := by unfold inI; rw [← hP.out, hy]
              have q2 : decide ((j : Int) < (L.length : Int)) = false := by simp; omega
              have q2' : decide (j < L.length) = false := by simp; omega
              replace hd := Lib.hid hd
              clear hy
              go_quiet (fail)
              go_wp2
              go_meet
              exact ⟨by rw [hbi.out, hd.out], hq.out.drewN _⟩
            | some y =>
              have hjn := (List.getElem?_eq_some_iff.1 hy).1
              obtain ⟨g, hg, y0, y1, y2⟩ := rowAt' (hq.out.row (i := 1) rfl) hy
              subst hg
              have q2 : (j : Int) < (L.length : Int) := by omega
              have hin : inI x L = decide (y.l = yl ∧ y.k = yk) := by unfold inI; rw [← hP.out, hy]; show same x.l x.k y = _; rw [hxl.out, hxk.out]; rfl
              by_cases h1 : y.l = yl
              · have t1 : (y.l == yl) = true := by simpa using h1
                by_cases h2 : y.k = yk
                · have t2 : (y.k == yk) = true := by simpa using h2
                  have hd : inI x L = true := by rw [hin]; simp [h1, h2]
                  replace hd := Lib.hid hd
                  clear hy hin h1 h2
                  go_quiet (fail)
                  go_wp2
                  go_meet
                  exact ⟨by rw [hbi.out, hd.out], hq.out.drewN _⟩
                · have t2 : (y.k == yk) = false := by simpa using h2
                  have hd : inI x L = false := by rw [hin]; simp [h2]
                  replace hd := Lib.hid hd
                  clear hy hin h1 h2
                  go_quiet (fail)
                  go_wp2
                  go_meet
                  exact ⟨by rw [hbi.out, hd.out], hq.out.drewN _⟩
              · have t1 : (y.l == yl) = false := by simpa using h1
                have hd : inI x L = false := by rw [hin]; simp [h1]
                replace hd := Lib.hid hd
                clear hy hin h1
                go_quiet (fail)
                go_wp2
                go_meet
                exact ⟨by rw [hbi.out, hd.out], hq.out.drewN _⟩
          obtain ⟨rfl, hq1⟩ := hcut
          replace hq := Lib.hid hq1
          clear hq1
          have hsame := fun (W : World) (v u : Value) (M : List Ix) (h : Sl W v M.length (ixCells M)) (h' : Sl W u M.length (ixCells M)) (hM : M.length ≤ 32) => same_eq v u M W h h' (by omega)
          have hmayx := fun W => may_any x W
          have hlmayx := fun W => lmay_any x W
          obtain ⟨D, hD⟩ : ∃ D, D = dropL L yl yk := ⟨_, rfl⟩
          have hDe : D = if bi then L.take j ++ L.drop (j + 1) else L := by rw [hbi.out, hD, hP.out, ← drop_eq x L hs.out, hxl.out, hxk.out]; rfl
          have hDS : SI D := by rw [hD]; exact List.Pairwise.filter _ hs.out
          have hDm : ∀ x ∈ D, mayB x = true := fun z hz => by rw [hD] at hz; exact hm.out z (List.mem_filter.1 hz).1
          have hDl : D.length ≤ 32 := by rw [hD]; exact Nat.le_trans (List.length_filter_le _ _) hL32
          have hdrop : ∀ W rs (h : Hp w [] rs W) (hi : rs[2]? = some (.row 73 3 (.slice ad L.length cp) L.length (ixCells L))), Calls Try.prog 34 #[.slice ad L.length cp, .int .i64 yl, .int .i64 yk] W fun e w' => ∃ v', e = .returned (.tuple #[v', .bool bi]) ∧ (∃ ad cp, v' = .slice ad D.length cp) ∧ Hp w [] (.row 73 3 v' D.length (ixCells D) :: rs) w' := fun W rs h hi => by
            have hl := drop_len x L hs.out
            rw [hbi.out, ← hl, hxl.out, hxk.out, hD]
            refine (drop_any _ L yl yk W (h.sl hi (by omega)) (by omega)).mono ?_
            rintro e w' ⟨v', he, hv, h1⟩
            exact ⟨v', he, hv, h.take h1⟩
          have hadd : ∀ W rs (h : Hp w [] rs W) (hi : rs[2]? = some (.row 73 3 (.slice ad L.length cp) L.length (ixCells L))), Calls Try.prog 35 #[.slice ad L.length cp, .agg #[.int .i64 yl, .int .i64 yk, .int .i64 yd]] W fun e w' => ∃ v', e = .returned (.tuple #[v', .int .i64 (addL L x).2]) ∧ (∃ ad cp, v' = .slice ad (addL L x).1.length cp) ∧ Hp w [] (.row 73 3 v' (addL L x).1.length (ixCells (addL L x).1) :: rs) w' := fun W rs h hi => by
            have := add_any _ L x W (h.sl hi (by omega)) (by omega)
            rw [hxx.out] at this ⊢
            refine this.mono ?_
            rintro e w' ⟨v', he, hv, h1⟩
            exact ⟨v', he, hv, h.take h1⟩
          obtain ⟨hp1, hp2, hp3⟩ := parts x L hs.out
          rw [← hbi.out] at hp2 hp3
          rw [← hP.out] at hp1 hp2
          have d3 := d3x.out _ hq.out.bel
          rw [hxx.out] at hmayx hlmayx
          unfold Ix.v at hmayx hlmayx
          simp only at hmayx hlmayx
          rw [← hxx.out] at hmayx hlmayx
          replace hsame := Lib.hid hsame; replace hmayx := Lib.hid hmayx; replace hlmayx := Lib.hid hlmayx; replace hDe := Lib.hid hDe; replace hDS := Lib.hid hDS; replace hDm := Lib.hid hDm; replace hdrop := Lib.hid hdrop; replace hadd := Lib.hid hadd; replace hp1 := Lib.hid hp1; replace hp2 := Lib.hid hp2; replace hp3 := Lib.hid hp3; replace hDl := Lib.hid hDl; replace hD := Lib.hid hD
          go_upto_if 104 with fail
          go_cut [5, 6, 11, 12, 13, 14] from 105 to 164 (fun s5 s6 s11 s12 s13 s14 wx => ∃ (M : List Ix) (ad : Option Addr) (cp : Nat) (ad2 : Option Addr) (cp2 : Nat), s5 = .slice ad M.length cp ∧ s6 = .slice ad2 M.length cp2 ∧ SI M ∧ (∀ x ∈ M, mayB x = true) ∧ M.length ≤ 32 ∧ Hp w [] [.row 73 3 (.slice ad2 M.length cp2) M.length (ixCells M), .box q #[.int .i64 yl, .int .i64 yk, .int .i64 yd] 73, .row 73 3 (.slice ad M.length cp) M.length (ixCells M)] wx)
          case first =>
            as_aux_lemma =>
            have x0 := hq.out.cell (i := 0) rfl 0; have x1 := hq.out.cell (i := 0) rfl 1; have x2 := hq.out.cell (i := 0) rfl 2
            simp at x0 x1 x2
            cases gone with
            | true =>
              cases bi with
              | false =>
                clear hp3
                replace hDe := Lib.hid (show D = L by simpa using hDe.out)
                go_wp2_with (go_at_call 34; (with_reducible refine (hdrop.out _ _ hq.out rfl).mono ?_); rintro e w3 ⟨v3, rfl, ⟨ad3, cp3, rfl⟩, h3⟩; replace hq := Lib.hid h3; clear h3)
                go_meet
                rw [hDe.out] at hq
                exact ⟨L, ad3, cp3, ad2, cp2, by rw [hDe.out], rfl, hs.out, hm.out, hL32, (hq.out.drop 3).perm (List.reverse_perm _).symm⟩
              | true =>
                clear hp3
                have hjn : j < L.length := by rw [hP.out]; exact in_lt hbi.out.symm
                obtain ⟨g, cap, hv, _, _⟩ := (hq.out.row (i := 1) rfl).form (by omega)
                injection hv with hv1 hv2 hv3
                subst hv1 hv3
                have hcp := rowCap (hq.out.row (i := 1) rfl)
                have hDl2 : 0 + j + (L.length - (j + 1)) = D.length := by rw [hDe.out]; simp; omega
                have hDc : ([] ++ ixCells (L.take j)) ++ ixCells (L.drop (j + 1)) = ixCells D := by rw [hDe.out]; simp [ixCells]
                have hs1 : ∀ W, W.ownsRow 0 73 3 (.slice (some ⟨g, 0, none⟩) L.length cp2) L.length (ixCells L) → ∀ c, Sl W (.slice (some ⟨g, 0, none⟩) j c) j (ixCells (L.take j)) := fun W h c => by
                  have := sl_part h 0 j c (by omega) (by omega)
                  simpa using this
                have hs2 : ∀ W, W.ownsRow 0 73 3 (.slice (some ⟨g, 0, none⟩) L.length cp2) L.length (ixCells L) → ∀ (A : Option Addr) (c : Nat), (A = some ⟨g, (j + 1) * 3, none⟩ ∨ cp2 = j + 1) → Sl W (.slice A (L.length - (j + 1)) c) (L.length - (j + 1)) (ixCells (L.drop (j + 1))) := fun W h A c hA => by
                  rcases hA with rfl | hA
                  · have := sl_part h (j + 1) (L.length - (j + 1)) c (by omega) (by omega)
                    rwa [List.take_of_length_le (by simp)] at this
                  · exact ⟨_, _, rfl, by omega, .inl (by omega)⟩
                have hw1 : IntKind.i64.wrap ((j : Int) + 1) = (j : Int) + 1 := IntWalk.i64_in _ (by omega)
                have r1 : (0 : Int) ≤ (j : Int) := by omega
                have r2 : (j : Int) ≤ (cp2 : Int) := by omega
                have r3 : (0 : Int) ≤ (j : Int) + 1 := by omega
                have r4 : (j : Int) + 1 ≤ (L.length : Int) := by omega
                have r5 : (L.length : Int) ≤ (cp2 : Int) := by omega
                have r6 : (j : Int) ≤ (j : Int) + 1 := by omega
                have hDl3 := Lib.hid (show j + (L.length - (j + 1)) = D.length by omega)
                have htn : ((j : Int) + 1).toNat = j + 1 := by omega
                have hl1 := Lib.hid (show (ixCells (L.take j)).length = j * 3 by rw [ixCells_len, List.length_take, Nat.min_eq_left (by omega)])
                have hl2 := Lib.hid (show (ixCells (L.drop (j + 1))).length = (L.length - (j + 1)) * 3 by rw [ixCells_len, List.length_drop])
                have hb1 := Lib.hid (show 0 + j ≤ 100000000 by omega)
                have hb2 := Lib.hid (show 0 + j + (L.length - (j + 1)) ≤ 100000000 by omega)
                replace hs1 := Lib.hid hs1; replace hs2 := Lib.hid hs2; replace hDl2 := Lib.hid hDl2; replace hDc := Lib.hid hDc
                go_upto_region 17 with (go_at_call 34; (with_reducible refine (hdrop.out _ _ hq.out rfl).mono ?_); rintro e w3 ⟨v3, rfl, ⟨ad3, cp3, rfl⟩, h3⟩; replace hq := Lib.hid h3; clear h3)
                by_cases hc : cp2 = j + 1
                · have hLj : L.length = j + 1 := by omega
                  have hDz : 0 + j + 0 = D.length := by have := hDl2.out; omega
                  have hDy : j = D.length := by omega
                  have hDcz : ([] ++ ixCells (L.take j)) ++ [] = ixCells D := by rw [← hDc.out, List.drop_of_length_le (by omega)]; simp [ixCells]
                  have hb3 := Lib.hid (show 0 + j + 0 ≤ 100000000 by omega)
                  have hsz0 := fun (W : World) (A : Option Addr) (c : Nat) => (⟨A, c, rfl, by omega, .inl rfl⟩ : Sl W (.slice A 0 c) 0 [])
                  replace hLj := Lib.hid hLj; replace hDz := Lib.hid hDz; replace hDcz := Lib.hid hDcz; replace hsz0 := Lib.hid hsz0; replace hDy := Lib.hid hDy
                  subst hc
                  refine wp_region_noPanic ?_; refine wp_region_held_drew (S := (fun _ => True)) (by kernel_rfl) ?_ (fun hHeld => ?_); (focus ((try dsimp only); (first | done | trivial); done)); (refine take_t (i := 1) (d := 119) (oi := _) (v := ?_) rfl rfl (by kernel_rfl) (by kernel_rfl) (by kernel_rfl) (by rfl) ?_ (by assumption) ?_; rotate_left; (focus (intro w0 hSw; (try dsimp only at hSw); go_simp; (try with_reducible rfl); done)); ((try simp only [Act.put, List.setIfInBounds_toArray]); (try dsimp only [List.set_cons_zero, List.set_cons_succ]))); (refine take_t (i := 2) (d := 120) (oi := _) (v := ?_) rfl rfl (by kernel_rfl) (by kernel_rfl) (by kernel_rfl) (by rfl) ?_ (by assumption) ?_; rotate_left; (focus (intro w0 hSw; (try dsimp only at hSw); go_simp; (try with_reducible rfl); done)); ((try simp only [Act.put, List.setIfInBounds_toArray]); (try dsimp only [List.set_cons_zero, List.set_cons_succ]))); (refine take_t (i := 3) (d := 121) (oi := _) (v := ?_) rfl rfl (by kernel_rfl) (by kernel_rfl) (by kernel_rfl) (by rfl) ?_ (by assumption) ?_; rotate_left; (focus (intro w0 hSw; (try dsimp only at hSw); go_simp; (try with_reducible rfl); done)); ((try simp only [Act.put, List.setIfInBounds_toArray]); (try dsimp only [List.set_cons_zero, List.set_cons_succ]))); (refine take_t (i := 5) (d := 123) (oi := _) (v := ?_) rfl rfl (by kernel_rfl) (by kernel_rfl) (by kernel_rfl) (by rfl) ?_ (by assumption) ?_; rotate_left; (focus (intro w0 hSw; (try dsimp only at hSw); go_simp; (try with_reducible rfl); done)); ((try simp only [Act.put, List.setIfInBounds_toArray]); (try dsimp only [List.set_cons_zero, List.set_cons_succ]))); (refine take_t (i := 6) (d := 124) (oi := _) (v := ?_) rfl rfl (by kernel_rfl) (by kernel_rfl) (by kernel_rfl) (by rfl) ?_ (by assumption) ?_; rotate_left; (focus (intro w0 hSw; (try dsimp only at hSw); go_simp; (try with_reducible rfl); done)); ((try simp only [Act.put, List.setIfInBounds_toArray]); (try dsimp only [List.set_cons_zero, List.set_cons_succ]))); (refine take_t (i := 7) (d := 125) (oi := _) (v := ?_) rfl rfl (by kernel_rfl) (by kernel_rfl) (by kernel_rfl) (by rfl) ?_ (by assumption) ?_; rotate_left; (focus (intro w0 hSw; (try dsimp only at hSw); go_simp; (try with_reducible rfl); done)); ((try simp only [Act.put, List.setIfInBounds_toArray]); (try dsimp only [List.set_cons_zero, List.set_cons_succ]))); (refine take_t (i := 8) (d := 126) (oi := _) (v := ?_) rfl rfl (by kernel_rfl) (by kernel_rfl) (by kernel_rfl) (by rfl) ?_ (by assumption) ?_; rotate_left; (focus (intro w0 hSw; (try dsimp only at hSw); go_simp; (try with_reducible rfl); done)); ((try simp only [Act.put, List.setIfInBounds_toArray]); (try dsimp only [List.set_cons_zero, List.set_cons_succ]))); (refine wpAnyH_ready (rs := [0]) (by kernel_rfl) (by simp) ?_; refine AllReadyH.cons (o := _) rfl (fun K' hK => ?_) AllReadyH.nil; go_simp; (replace hq := Lib.hid (hq.out.drew.rowLit #[] 73 3 0 (by decide) rfl)); (try dsimp only); refine hK.out _ _ ?_ (fun hHeld2 => ?_); (focus ((try dsimp only); (first | done | trivial); done)); clear hK K'; clear hHeld; have hHeld := hHeld2; clear hHeld2; ((try simp only [Act.put, List.setIfInBounds_toArray]); (try dsimp only [List.set_cons_zero, List.set_cons_succ]))); (refine wpAnyH_ready (rs := [4]) (by kernel_rfl) (by simp) ?_; refine AllReadyH.cons (o := _) rfl (fun K' hK => ?_) AllReadyH.nil; (refine step_append_sl_hp rfl _ _ rfl Try.underlying71 slix.eInfo rfl (by decide) (by decide) hq.out 0 rfl rfl rfl (hs1.out _ (hq.out.row (i := 3) rfl) _) hl1.out (ixCells_one _) hb1.out ?_; intro v5 w5 h5 hv5; replace hq := Lib.hid h5; clear h5; obtain ⟨ad5, cp5, rfl⟩ := hv5); (try dsimp only); refine hK.out _ _ ?_ (fun hHeld2 => ?_); (focus ((try dsimp only); (first | done | trivial); done)); clear hK K'; clear hHeld; have hHeld := hHeld2; clear hHeld2; ((try simp only [Act.put, List.setIfInBounds_toArray]); (try dsimp only [List.set_cons_zero, List.set_cons_succ]))); (refine wpAnyH_ready (rs := [9]) (by kernel_rfl) (by simp) ?_; refine AllReadyH.cons (o := _) rfl (fun K' hK => ?_) AllReadyH.nil; (refine step_append_sl_hp rfl _ _ rfl Try.underlying71 slix.eInfo rfl (by decide) (by decide) hq.out 0 rfl rfl rfl (hsz0.out _ _ _) rfl (by intro u hu; cases hu) hb3.out ?_; intro v6 w6 h6 hv6; replace hq := Lib.hid h6; clear h6; obtain ⟨ad6, cp6, rfl⟩ := hv6); (try dsimp only); refine hK.out _ _ ?_ (fun hHeld2 => ?_); (focus ((try dsimp only); (first | done | trivial); done)); clear hK K'; clear hHeld; have hHeld := hHeld2; clear hHeld2; ((try simp only [Act.put, List.setIfInBounds_toArray]); (try dsimp only [List.set_cons_zero, List.set_cons_succ]))); (refine take_t (i := 10) (d := 6) (oi := _) (v := ?_) rfl rfl (by kernel_rfl) (by kernel_rfl) (by kernel_rfl) (by rfl) ?_ (by assumption) ?_; rotate_left; (focus (intro w0 hSw; (try dsimp only at hSw); go_simp; (try with_reducible rfl); done)); ((try simp only [Act.put, List.setIfInBounds_toArray]); (try dsimp only [List.set_cons_zero, List.set_cons_succ]))); refine wpAnyH_done (by kernel_rfl) ?_ _; refine NoPanic.normal ?_
                  go_wp2
                  go_meet
                  rw [hDz.out, hDcz.out] at hq
                  exact ⟨D, ad3, cp3, ad6, cp6, rfl, by rw [← hDy.out], hDS.out, hDm.out, hDl.out, ((hq.out.drop 4).drop 3).perm (List.Perm.cons _ (List.Perm.swap _ _ _))⟩
                · refine wp_region_noPanic ?_; refine wp_region_held_drew (S := (fun _ => True)) (by kernel_rfl) ?_ (fun hHeld => ?_); (focus ((try dsimp only); (first | done | trivial); done)); (refine take_t (i := 1) (d := 119) (oi := _) (v := ?_) rfl rfl (by kernel_rfl) (by kernel_rfl) (by kernel_rfl) (by rfl) ?_ (by assumption) ?_; rotate_left; (focus (intro w0 hSw; (try dsimp only at hSw); go_simp; (try with_reducible rfl); done)); ((try simp only [Act.put, List.setIfInBounds_toArray]); (try dsimp only [List.set_cons_zero, List.set_cons_succ]))); (refine take_t (i := 2) (d := 120) (oi := _) (v := ?_) rfl rfl (by kernel_rfl) (by kernel_rfl) (by kernel_rfl) (by rfl) ?_ (by assumption) ?_; rotate_left; (focus (intro w0 hSw; (try dsimp only at hSw); go_simp; (try with_reducible rfl); done)); ((try simp only [Act.put, List.setIfInBounds_toArray]); (try dsimp only [List.set_cons_zero, List.set_cons_succ]))); (refine take_t (i := 3) (d := 121) (oi := _) (v := ?_) rfl rfl (by kernel_rfl) (by kernel_rfl) (by kernel_rfl) (by rfl) ?_ (by assumption) ?_; rotate_left; (focus (intro w0 hSw; (try dsimp only at hSw); go_simp; (try with_reducible rfl); done)); ((try simp only [Act.put, List.setIfInBounds_toArray]); (try dsimp only [List.set_cons_zero, List.set_cons_succ]))); (refine take_t (i := 5) (d := 123) (oi := _) (v := ?_) rfl rfl (by kernel_rfl) (by kernel_rfl) (by kernel_rfl) (by rfl) ?_ (by assumption) ?_; rotate_left; (focus (intro w0 hSw; (try dsimp only at hSw); go_simp; (try with_reducible rfl); done)); ((try simp only [Act.put, List.setIfInBounds_toArray]); (try dsimp only [List.set_cons_zero, List.set_cons_succ]))); (refine take_t (i := 6) (d := 124) (oi := _) (v := ?_) rfl rfl (by kernel_rfl) (by kernel_rfl) (by kernel_rfl) (by rfl) ?_ (by assumption) ?_; rotate_left; (focus (intro w0 hSw; (try dsimp only at hSw); go_simp; (try with_reducible rfl); done)); ((try simp only [Act.put, List.setIfInBounds_toArray]); (try dsimp only [List.set_cons_zero, List.set_cons_succ]))); (refine take_t (i := 7) (d := 125) (oi := _) (v := ?_) rfl rfl (by kernel_rfl) (by kernel_rfl) (by kernel_rfl) (by rfl) ?_ (by assumption) ?_; rotate_left; (focus (intro w0 hSw; (try dsimp only at hSw); go_simp; (try with_reducible rfl); done)); ((try simp only [Act.put, List.setIfInBounds_toArray]); (try dsimp only [List.set_cons_zero, List.set_cons_succ]))); (refine take_t (i := 8) (d := 126) (oi := _) (v := ?_) rfl rfl (by kernel_rfl) (by kernel_rfl) (by kernel_rfl) (by rfl) ?_ (by assumption) ?_; rotate_left; (focus (intro w0 hSw; (try dsimp only at hSw); go_simp; (try with_reducible rfl); done)); ((try simp only [Act.put, List.setIfInBounds_toArray]); (try dsimp only [List.set_cons_zero, List.set_cons_succ]))); (refine wpAnyH_ready (rs := [0]) (by kernel_rfl) (by simp) ?_; refine AllReadyH.cons (o := _) rfl (fun K' hK => ?_) AllReadyH.nil; go_simp; (replace hq := Lib.hid (hq.out.drew.rowLit #[] 73 3 0 (by decide) rfl)); (try dsimp only); refine hK.out _ _ ?_ (fun hHeld2 => ?_); (focus ((try dsimp only); (first | done | trivial); done)); clear hK K'; clear hHeld; have hHeld := hHeld2; clear hHeld2; ((try simp only [Act.put, List.setIfInBounds_toArray]); (try dsimp only [List.set_cons_zero, List.set_cons_succ]))); (refine wpAnyH_ready (rs := [4]) (by kernel_rfl) (by simp) ?_; refine AllReadyH.cons (o := _) rfl (fun K' hK => ?_) AllReadyH.nil; (refine step_append_sl_hp rfl _ _ rfl Try.underlying71 slix.eInfo rfl (by decide) (by decide) hq.out 0 rfl rfl rfl (hs1.out _ (hq.out.row (i := 3) rfl) _) hl1.out (ixCells_one _) hb1.out ?_; intro v5 w5 h5 hv5; replace hq := Lib.hid h5; clear h5; obtain ⟨ad5, cp5, rfl⟩ := hv5); (try dsimp only); refine hK.out _ _ ?_ (fun hHeld2 => ?_); (focus ((try dsimp only); (first | done | trivial); done)); clear hK K'; clear hHeld; have hHeld := hHeld2; clear hHeld2; ((try simp only [Act.put, List.setIfInBounds_toArray]); (try dsimp only [List.set_cons_zero, List.set_cons_succ]))); (refine wpAnyH_ready (rs := [9]) (by kernel_rfl) (by simp) ?_; refine AllReadyH.cons (o := _) rfl (fun K' hK => ?_) AllReadyH.nil; (refine step_append_sl_hp rfl _ _ rfl Try.underlying71 slix.eInfo rfl (by decide) (by decide) hq.out 0 rfl rfl rfl (hs2.out _ (hq.out.row (i := 3) rfl) _ _ (.inl rfl)) hl2.out (ixCells_one _) hb2.out ?_; intro v6 w6 h6 hv6; replace hq := Lib.hid h6; clear h6; obtain ⟨ad6, cp6, rfl⟩ := hv6); (try dsimp only); refine hK.out _ _ ?_ (fun hHeld2 => ?_); (focus ((try dsimp only); (first | done | trivial); done)); clear hK K'; clear hHeld; have hHeld := hHeld2; clear hHeld2; ((try simp only [Act.put, List.setIfInBounds_toArray]); (try dsimp only [List.set_cons_zero, List.set_cons_succ]))); (refine take_t (i := 10) (d := 6) (oi := _) (v := ?_) rfl rfl (by kernel_rfl) (by kernel_rfl) (by kernel_rfl) (by rfl) ?_ (by assumption) ?_; rotate_left; (focus (intro w0 hSw; (try dsimp only at hSw); go_simp; (try with_reducible rfl); done)); ((try simp only [Act.put, List.setIfInBounds_toArray]); (try dsimp only [List.set_cons_zero, List.set_cons_succ]))); refine wpAnyH_done (by kernel_rfl) ?_ _; refine NoPanic.normal ?_
                  go_wp2
                  go_meet
                  rw [hDl2.out, hDc.out] at hq
                  exact ⟨D, ad3, cp3, ad6, cp6, rfl, by rw [← hDl3.out], hDS.out, hDm.out, hDl.out, ((hq.out.drop 4).drop 3).perm (List.Perm.cons _ (List.Perm.swap _ _ _))⟩
            | false =>
              cases hmx : mayB x with
              | false =>
                have he : addL L x = (L, 1) := add_no L x (.inl hmx)
                have hlm := hlmayx.out
                rw [hmx] at hlm
                have hadd1 : ∀ W rs (h : Hp w [] rs W) (hi : rs[2]? = some (.row 73 3 (.slice ad L.length cp) L.length (ixCells L))), Calls Try.prog 35 #[.slice ad L.length cp, .agg #[.int .i64 yl, .int .i64 yk, .int .i64 yd]] W fun e w' => ∃ v', e = .returned (.tuple #[v', .int .i64 1]) ∧ (∃ ad cp, v' = .slice ad L.length cp) ∧ Hp w [] (.row 73 3 v' L.length (ixCells L) :: rs) w' := fun W rs h hi => by
                  have := hadd.out W rs h hi
                  rw [he] at this; exact this
                replace hlm := Lib.hid hlm; replace hadd1 := Lib.hid hadd1
                clear he hadd hlmayx
                go_wp2_with (first | (go_at_call 35; (with_reducible refine (hadd1.out _ _ hq.out rfl).mono ?_); rintro e w3 ⟨v3, rfl, ⟨ad3, cp3, rfl⟩, h3⟩; replace hq := Lib.hid h3; clear h3; have x0 := (boxc hq.out (i := 1) rfl).1; have x1 := (boxc hq.out (i := 1) rfl).2.1; have x2 := (boxc hq.out (i := 1) rfl).2.2) | (go_at_call 36; (with_reducible refine (hlm.out _).mono ?_); rintro e w4 ⟨rfl, b4⟩; replace hq := Lib.hid (hq.out.below b4); clear b4))
                go_meet
                exact ⟨L, ad3, cp3, ad2, cp2, rfl, rfl, hs.out, hm.out, hL32, (hq.out.drop 3).perm (List.reverse_perm _).symm⟩
              | true =>
                cases bi with
                | true =>
                  have he : addL L x = (L, 1) := add_no L x (.inr (fun h0 => by have := hp3.out.1 h0; cases this))
                  have hlm := hlmayx.out
                  rw [hmx] at hlm
                  have hadd1 : ∀ W rs (h : Hp w [] rs W) (hi : rs[2]? = some (.row 73 3 (.slice ad L.length cp) L.length (ixCells L))), Calls Try.prog 35 #[.slice ad L.length cp, .agg #[.int .i64 yl, .int .i64 yk, .int .i64 yd]] W fun e w' => ∃ v', e = .returned (.tuple #[v', .int .i64 1]) ∧ (∃ ad cp, v' = .slice ad L.length cp) ∧ Hp w [] (.row 73 3 v' L.length (ixCells L) :: rs) w' := fun W rs h hi => by
                    have := hadd.out W rs h hi
                    rw [he] at this; exact this
                  replace hlm := Lib.hid hlm; replace hadd1 := Lib.hid hadd1
                  clear he hadd hlmayx
                  go_wp2_with (first | (go_at_call 35; (with_reducible refine (hadd1.out _ _ hq.out rfl).mono ?_); rintro e w3 ⟨v3, rfl, ⟨ad3, cp3, rfl⟩, h3⟩; replace hq := Lib.hid h3; clear h3; have x0 := (boxc hq.out (i := 1) rfl).1; have x1 := (boxc hq.out (i := 1) rfl).2.1; have x2 := (boxc hq.out (i := 1) rfl).2.2) | (go_at_call 36; (with_reducible refine (hlm.out _).mono ?_); rintro e w4 ⟨rfl, b4⟩; replace hq := Lib.hid (hq.out.below b4); clear b4))
                  go_meet
                  exact ⟨L, ad3, cp3, ad2, cp2, rfl, rfl, hs.out, hm.out, hL32, (hq.out.drop 3).perm (List.reverse_perm _).symm⟩
                | false =>
                  have hfn := hp3.out.2 rfl
                  by_cases h32 : 32 ≤ L.length
                  · have h32i : (L.length : Int) ≥ 32 := by omega
                    have h32j : (32 : Int) ≤ (L.length : Int) := by omega
                    have he : addL L x = (L, 5) := add_fl L x hmx hfn h32
                    have hlm := hlmayx.out
                    rw [hmx] at hlm
                    have hadd1 : ∀ W rs (h : Hp w [] rs W) (hi : rs[2]? = some (.row 73 3 (.slice ad L.length cp) L.length (ixCells L))), Calls Try.prog 35 #[.slice ad L.length cp, .agg #[.int .i64 yl, .int .i64 yk, .int .i64 yd]] W fun e w' => ∃ v', e = .returned (.tuple #[v', .int .i64 5]) ∧ (∃ ad cp, v' = .slice ad L.length cp) ∧ Hp w [] (.row 73 3 v' L.length (ixCells L) :: rs) w' := fun W rs h hi => by
                      have := hadd.out W rs h hi
                      rw [he] at this; exact this
                    replace hlm := Lib.hid hlm; replace hadd1 := Lib.hid hadd1
                    clear he hadd hlmayx
                    go_wp2_with (first | (go_at_call 35; (with_reducible refine (hadd1.out _ _ hq.out rfl).mono ?_); rintro e w3 ⟨v3, rfl, ⟨ad3, cp3, rfl⟩, h3⟩; replace hq := Lib.hid h3; clear h3; have x0 := (boxc hq.out (i := 1) rfl).1; have x1 := (boxc hq.out (i := 1) rfl).2.1; have x2 := (boxc hq.out (i := 1) rfl).2.2) | (go_at_call 36; (with_reducible refine (hlm.out _).mono ?_); rintro e w4 ⟨rfl, b4⟩; replace hq := Lib.hid (hq.out.below b4); clear b4))
                    go_meet
                    exact ⟨L, ad3, cp3, ad2, cp2, rfl, rfl, hs.out, hm.out, hL32, (hq.out.drop 3).perm (List.reverse_perm _).symm⟩
                  ·
                    have he := add_yes L x hmx hfn h32
                    have hah : aheadL L x = L.take j := by unfold aheadL; rw [← hp1.out]; exact List.filter_congr (fun y _ => ord_lt y x)
                    have hbh : behindL L x = L.drop j := by
                      have := hp2.out
                      simp only [Bool.false_eq_true, if_false, Nat.add_zero] at this
                      unfold behindL; rw [← this]; exact List.filter_congr (fun y _ => ord_gt y x)
                    have hAS0 := add_SI x L hs.out
                    rw [hp1.out, hp2.out] at hAS0
                    simp only [Bool.false_eq_true, if_false, Nat.add_zero] at hAS0
                    rw [hah, hbh] at he
                    obtain ⟨A, hA⟩ : ∃ A, A = L.take j ++ [x] ++ L.drop j := ⟨_, rfl⟩
                    rw [← hA] at he hAS0
                    have hAlen : A.length = j + 1 + (L.length - j) := by rw [hA]; simp; omega
                    have hAS := Lib.hid hAS0
                    have hAm : ∀ z ∈ A, mayB z = true := fun z hz => by
                      rw [hA] at hz
                      simp only [List.mem_append, List.mem_singleton] at hz
                      rcases hz with (hz | rfl) | hz
                      · exact hm.out z (List.mem_of_mem_take hz)
                      · exact hmx
                      · exact hm.out z (List.mem_of_mem_drop hz)
                    have hjl : j ≤ L.length := by have := hn.out; omega
                    have hAl : A.length ≤ 32 := by omega
                    have h32i : decide ((L.length : Int) ≥ 32) = false := by simp; omega
                    have h32j : decide ((32 : Int) ≤ (L.length : Int)) = false := by simp; omega
                    have h32k : decide (32 ≤ L.length) = false := by simp; omega
                    have hxc : ixCells A = (([] ++ ixCells (L.take j)) ++ [.int .i64 yl, .int .i64 yk, .int .i64 yd]) ++ ixCells (L.drop j) := by
                      rw [hA]; simp [ixCells, ixC, hxl.out, hxk.out, hxd.out]
                    have hlm := hlmayx.out
                    rw [hmx] at hlm
                    have hadd1 : ∀ W rs (h : Hp w [] rs W) (hi : rs[2]? = some (.row 73 3 (.slice ad L.length cp) L.length (ixCells L))), Calls Try.prog 35 #[.slice ad L.length cp, .agg #[.int .i64 yl, .int .i64 yk, .int .i64 yd]] W fun e w' => ∃ v', e = .returned (.tuple #[v', .int .i64 0]) ∧ (∃ ad cp, v' = .slice ad A.length cp) ∧ Hp w [] (.row 73 3 v' A.length (ixCells A) :: rs) w' := fun W rs h hi => by
                      have := hadd.out W rs h hi
                      rw [he] at this; exact this
                    replace hlm := Lib.hid hlm; replace hadd1 := Lib.hid hadd1; replace hAm := Lib.hid hAm; replace hAl := Lib.hid hAl; replace hAlen := Lib.hid hAlen; replace hA := Lib.hid hA; replace hxc := Lib.hid hxc
                    clear he hadd hlmayx hah hbh hAS0 hp1 hp2 hp3 hfn h32 hdrop hDe hDS hDm hDl hD
                    go_upto_region 22 with (first | (go_at_call 35; (with_reducible refine (hadd1.out _ _ hq.out rfl).mono ?_); rintro e w3 ⟨v3, rfl, ⟨ad3, cp3, rfl⟩, h3⟩; replace hq := Lib.hid h3; clear h3; have x0 := (boxc hq.out (i := 1) rfl).1; have x1 := (boxc hq.out (i := 1) rfl).2.1; have x2 := (boxc hq.out (i := 1) rfl).2.2) | (go_at_call 36; (with_reducible refine (hlm.out _).mono ?_); rintro e w4 ⟨rfl, b4⟩; replace hq := Lib.hid (hq.out.below b4); clear b4))
                    have hsz0 := Lib.hid (fun (W : World) (A : Option Addr) (c : Nat) => (⟨A, c, rfl, by omega, .inl rfl⟩ : Sl W (.slice A 0 c) 0 []))
                    have hsz5 := Lib.hid (fun (W : World) (o : Obj) => (by simp : (W.alloc o).heap.size = W.heap.size + 1))
                    have hX0 := Lib.hid (show 1 ≤ 140737488355328 by decide)
                    have hX1 : ∀ u ∈ [Value.int .i64 yl, .int .i64 yk, .int .i64 yd], u.oneCell' = true := by intro u hu; simp at hu; rcases hu with rfl | rfl | rfl <;> rfl
                    have hXl := Lib.hid (show [Value.int .i64 yl, .int .i64 yk, .int .i64 yd].length = 1 * 3 by rfl)
                    replace hX1 := Lib.hid hX1
                    rcases (hq.out.row (i := 2) rfl).2 with ⟨hv, hv0⟩ | ⟨g, cap, cur, hv, _, _, hcp, _⟩
                    · injection hv with hv1 hv2 hv3
                      obtain rfl : L = [] := List.length_eq_zero_iff.1 hv2
                      obtain rfl : j = 0 := by simpa using hjl
                      subst hv1 hv3
                      have hbA := Lib.hid (show 0 + 0 ≤ 100000000 by decide)
                      have hbX := Lib.hid (show 0 + 1 ≤ 100000000 by decide)
                      have hbB := Lib.hid (show 1 + 0 ≤ 100000000 by decide)
                      have hk4 := Lib.hid (show 0 + 0 = 0 by rfl)
                      have hz4 := Lib.hid (show ([] : List Value) ++ [] = [] by rfl)
                      have hk7 := Lib.hid (show 0 + 1 = 1 by rfl)
                      have hz7 := Lib.hid (show ([] : List Value) ++ [Value.int .i64 yl, .int .i64 yk, .int .i64 yd] = [Value.int .i64 yl, .int .i64 yk, .int .i64 yd] by rfl)
                      have hk11 := Lib.hid (show 1 + 0 = A.length by have := hAlen.out; simpa using this.symm)
                      have hz11 : [Value.int .i64 yl, .int .i64 yk, .int .i64 yd] ++ [] = ixCells A := by have := hxc.out; simpa [ixCells] using this.symm
                      replace hz11 := Lib.hid hz11
                      clear hv0 hv2
                      refine wp_region_noPanic ?_; refine wp_region_held_drew (S := (fun W' => W'.cell? ⟨q, 0, none⟩ = some (.int .i64 yl) ∧ W'.cell? ⟨q, 1, none⟩ = some (.int .i64 yk) ∧ W'.cell? ⟨q, 2, none⟩ = some (.int .i64 yd))) (by kernel_rfl) ?_ (fun hHeld => ?_); (focus ((try dsimp only); (first | exact boxc hq.out.drew (i := 1) rfl | exact boxc hq.out (i := 1) rfl | exact boxc hq.out (i := 2) rfl | exact boxc hq.out (i := 3) rfl); done))
                      (refine take_t (i := 1) (d := 138) (oi := _) (v := ?_) rfl rfl (by kernel_rfl) (by kernel_rfl) (by kernel_rfl) (by rfl) ?_ (by assumption) ?_; rotate_left; (focus (intro w0 hSw; (try dsimp only at hSw); go_simp; (try with_reducible rfl); done)); ((try simp only [Act.put, List.setIfInBounds_toArray]); (try dsimp only [List.set_cons_zero, List.set_cons_succ]))); (refine take_t (i := 2) (d := 139) (oi := _) (v := ?_) rfl rfl (by kernel_rfl) (by kernel_rfl) (by kernel_rfl) (by rfl) ?_ (by assumption) ?_; rotate_left; (focus (intro w0 hSw; (try dsimp only at hSw); go_simp; (try with_reducible rfl); done)); ((try simp only [Act.put, List.setIfInBounds_toArray]); (try dsimp only [List.set_cons_zero, List.set_cons_succ]))); (refine take_t (i := 3) (d := 140) (oi := _) (v := ?_) rfl rfl (by kernel_rfl) (by kernel_rfl) (by kernel_rfl) (by rfl) ?_ (by assumption) ?_; rotate_left; (focus (intro w0 hSw; (try dsimp only at hSw); go_simp; (try with_reducible rfl); done)); ((try simp only [Act.put, List.setIfInBounds_toArray]); (try dsimp only [List.set_cons_zero, List.set_cons_succ]))); (refine take_t (i := 5) (d := 142) (oi := _) (v := ?_) rfl rfl (by kernel_rfl) (by kernel_rfl) (by kernel_rfl) (by rfl) ?_ (by assumption) ?_; rotate_left; (focus (intro w0 hSw; (try dsimp only at hSw); go_simp; (try with_reducible rfl); done)); ((try simp only [Act.put, List.setIfInBounds_toArray]); (try dsimp only [List.set_cons_zero, List.set_cons_succ]))); (refine take_t (i := 8) (d := 145) (oi := _) (v := ?_) rfl rfl (by kernel_rfl) (by kernel_rfl) (by kernel_rfl) (by rfl) ?_ (by assumption) ?_; rotate_left; (focus (intro w0 hSw; (try dsimp only at hSw); go_simp; (try with_reducible rfl); done)); ((try simp only [Act.put, List.setIfInBounds_toArray]); (try dsimp only [List.set_cons_zero, List.set_cons_succ]))); (refine take_t (i := 9) (d := 146) (oi := _) (v := ?_) rfl rfl (by kernel_rfl) (by kernel_rfl) (by kernel_rfl) (by rfl) ?_ (by assumption) ?_; rotate_left; (focus (intro w0 hSw; (try dsimp only at hSw); go_simp; (try with_reducible rfl); done)); ((try simp only [Act.put, List.setIfInBounds_toArray]); (try dsimp only [List.set_cons_zero, List.set_cons_succ]))); (refine take_t (i := 10) (d := 147) (oi := _) (v := ?_) rfl rfl (by kernel_rfl) (by kernel_rfl) (by kernel_rfl) (by rfl) ?_ (by assumption) ?_; rotate_left; (focus (intro w0 hSw; (try dsimp only at hSw); go_simp; (try with_reducible rfl); done)); ((try simp only [Act.put, List.setIfInBounds_toArray]); (try dsimp only [List.set_cons_zero, List.set_cons_succ])))
                      refine wpAnyH_ready (rs := [0, 6]) (by kernel_rfl) (by simp) ?_; refine AllReadyH.cons (o := _) rfl (fun K' hK => ?_) (AllReadyH.cons (o := _) rfl (fun K' hK => ?_) AllReadyH.nil)
                      · go_simp; (replace hq := Lib.hid (hq.out.drew.rowLit #[] 73 3 0 (by decide) rfl); (first | rw [hsz5.out] at hq | skip)); (try dsimp only); refine hK.out _ _ ?_ (fun hHeld2 => ?_); (focus ((try dsimp only); (first | exact boxc hq.out.drew (i := 1) rfl | exact boxc hq.out (i := 1) rfl | exact boxc hq.out (i := 2) rfl | exact boxc hq.out (i := 3) rfl); done)); clear hK K'; clear hHeld; have hHeld := hHeld2; clear hHeld2; ((try simp only [Act.put, List.setIfInBounds_toArray]); (try dsimp only [List.set_cons_zero, List.set_cons_succ]))
                        refine wpAnyH_ready (rs := [4, 6]) (by kernel_rfl) (by simp) ?_; refine AllReadyH.cons (o := _) rfl (fun K' hK => ?_) (AllReadyH.cons (o := _) rfl (fun K' hK => ?_) AllReadyH.nil)
                        · refine step_append_sl_hpk rfl _ _ rfl Try.underlying71 slix.eInfo rfl (by decide) (by decide) hq.out 0 rfl rfl rfl (hsz0.out _ _ _) rfl (by intro u hu; cases hu) hbA.out hk4.out hz4.out ?_; intro v5 w5 h5 hv5; replace hq := Lib.hid h5; clear h5; obtain ⟨ad5, cp5, rfl⟩ := hv5
                          (try dsimp only); refine hK.out _ _ ?_ (fun hHeld2 => ?_); (focus ((try dsimp only); (first | exact boxc hq.out.drew (i := 1) rfl | exact boxc hq.out (i := 1) rfl | exact boxc hq.out (i := 2) rfl | exact boxc hq.out (i := 3) rfl); done)); clear hK K'; clear hHeld; have hHeld := hHeld2; clear hHeld2; ((try simp only [Act.put, List.setIfInBounds_toArray]); (try dsimp only [List.set_cons_zero, List.set_cons_succ]))
                          (refine wpAnyH_ready (rs := [6]) (by kernel_rfl) (by simp) ?_; refine AllReadyH.cons (o := _) rfl (fun K' hK => ?_) AllReadyH.nil; go_simp; (replace hq := Lib.hid (hq.out.rowLit #[.int .i64 yl, .int .i64 yk, .int .i64 yd] 73 3 1 (by decide) rfl); (first | rw [hsz5.out] at hq | skip)); (try dsimp only); refine hK.out _ _ ?_ (fun hHeld2 => ?_); (focus ((try dsimp only); (first | exact boxc hq.out.drew (i := 1) rfl | exact boxc hq.out (i := 1) rfl | exact boxc hq.out (i := 2) rfl | exact boxc hq.out (i := 3) rfl); done)); clear hK K'; clear hHeld; have hHeld := hHeld2; clear hHeld2; ((try simp only [Act.put, List.setIfInBounds_toArray]); (try dsimp only [List.set_cons_zero, List.set_cons_succ]))); (refine wpAnyH_ready (rs := [7]) (by kernel_rfl) (by simp) ?_; refine AllReadyH.cons (o := _) rfl (fun K' hK => ?_) AllReadyH.nil; (refine step_append_sl_hpk rfl _ _ rfl Try.underlying71 slix.eInfo rfl (by decide) (by decide) hq.out 1 rfl rfl rfl (hq.out.sl (i := 0) rfl hX0.out) hXl.out hX1.out hbX.out hk7.out hz7.out ?_; intro v6 w6 h6 hv6; replace hq := Lib.hid h6; clear h6; obtain ⟨ad6, cp6, rfl⟩ := hv6); (try dsimp only); refine hK.out _ _ ?_ (fun hHeld2 => ?_); (focus ((try dsimp only); (first | exact boxc hq.out.drew (i := 1) rfl | exact boxc hq.out (i := 1) rfl | exact boxc hq.out (i := 2) rfl | exact boxc hq.out (i := 3) rfl); done)); clear hK K'; clear hHeld; have hHeld := hHeld2; clear hHeld2; ((try simp only [Act.put, List.setIfInBounds_toArray]); (try dsimp only [List.set_cons_zero, List.set_cons_succ]))); (refine wpAnyH_ready (rs := [11]) (by kernel_rfl) (by simp) ?_; refine AllReadyH.cons (o := _) rfl (fun K' hK => ?_) AllReadyH.nil; (refine step_append_sl_hpk rfl _ _ rfl Try.underlying71 slix.eInfo rfl (by decide) (by decide) hq.out 1 rfl rfl rfl (hsz0.out _ _ _) rfl (by intro u hu; cases hu) hbB.out hk11.out hz11.out ?_; intro v7 w7 h7 hv7; replace hq := Lib.hid h7; clear h7; obtain ⟨ad7, cp7, rfl⟩ := hv7); (try dsimp only); refine hK.out _ _ ?_ (fun hHeld2 => ?_); (focus ((try dsimp only); (first | exact boxc hq.out.drew (i := 1) rfl | exact boxc hq.out (i := 1) rfl | exact boxc hq.out (i := 2) rfl | exact boxc hq.out (i := 3) rfl); done)); clear hK K'; clear hHeld; have hHeld := hHeld2; clear hHeld2; ((try simp only [Act.put, List.setIfInBounds_toArray]); (try dsimp only [List.set_cons_zero, List.set_cons_succ]))); (refine take_t (i := 12) (d := 6) (oi := _) (v := ?_) rfl rfl (by kernel_rfl) (by kernel_rfl) (by kernel_rfl) (by rfl) ?_ (by assumption) ?_; rotate_left; (focus (intro w0 hSw; (try dsimp only at hSw); go_simp; (try with_reducible rfl); done)); ((try simp only [Act.put, List.setIfInBounds_toArray]); (try dsimp only [List.set_cons_zero, List.set_cons_succ])))
                          refine wpAnyH_done (by kernel_rfl) ?_ _; refine NoPanic.normal ?_
                          go_wp2
                          go_meet
                          exact ⟨A, ad3, cp3, ad7, cp7, rfl, rfl, hAS.out, hAm.out, hAl.out, (((hq.out.drop 5).drop 4).drop 0).perm (List.Perm.cons _ (List.Perm.swap _ _ _))⟩
                        · go_simp; (replace hq := Lib.hid (hq.out.rowLit #[.int .i64 yl, .int .i64 yk, .int .i64 yd] 73 3 1 (by decide) rfl); (first | rw [hsz5.out] at hq | skip)); (try dsimp only); refine hK.out _ _ ?_ (fun hHeld2 => ?_); (focus ((try dsimp only); (first | exact boxc hq.out.drew (i := 1) rfl | exact boxc hq.out (i := 1) rfl | exact boxc hq.out (i := 2) rfl | exact boxc hq.out (i := 3) rfl); done)); clear hK K'; clear hHeld; have hHeld := hHeld2; clear hHeld2; ((try simp only [Act.put, List.setIfInBounds_toArray]); (try dsimp only [List.set_cons_zero, List.set_cons_succ]))
                          (refine wpAnyH_ready (rs := [4]) (by kernel_rfl) (by simp) ?_; refine AllReadyH.cons (o := _) rfl (fun K' hK => ?_) AllReadyH.nil; (refine step_append_sl_hpk rfl _ _ rfl Try.underlying71 slix.eInfo rfl (by decide) (by decide) hq.out 1 rfl rfl rfl (hsz0.out _ _ _) rfl (by intro u hu; cases hu) hbA.out hk4.out hz4.out ?_; intro v5 w5 h5 hv5; replace hq := Lib.hid h5; clear h5; obtain ⟨ad5, cp5, rfl⟩ := hv5); (try dsimp only); refine hK.out _ _ ?_ (fun hHeld2 => ?_); (focus ((try dsimp only); (first | exact boxc hq.out.drew (i := 1) rfl | exact boxc hq.out (i := 1) rfl | exact boxc hq.out (i := 2) rfl | exact boxc hq.out (i := 3) rfl); done)); clear hK K'; clear hHeld; have hHeld := hHeld2; clear hHeld2; ((try simp only [Act.put, List.setIfInBounds_toArray]); (try dsimp only [List.set_cons_zero, List.set_cons_succ]))); (refine wpAnyH_ready (rs := [7]) (by kernel_rfl) (by simp) ?_; refine AllReadyH.cons (o := _) rfl (fun K' hK => ?_) AllReadyH.nil; (refine step_append_sl_hpk rfl _ _ rfl Try.underlying71 slix.eInfo rfl (by decide) (by decide) hq.out 1 rfl rfl rfl (hq.out.sl (i := 0) rfl hX0.out) hXl.out hX1.out hbX.out hk7.out hz7.out ?_; intro v6 w6 h6 hv6; replace hq := Lib.hid h6; clear h6; obtain ⟨ad6, cp6, rfl⟩ := hv6); (try dsimp only); refine hK.out _ _ ?_ (fun hHeld2 => ?_); (focus ((try dsimp only); (first | exact boxc hq.out.drew (i := 1) rfl | exact boxc hq.out (i := 1) rfl | exact boxc hq.out (i := 2) rfl | exact boxc hq.out (i := 3) rfl); done)); clear hK K'; clear hHeld; have hHeld := hHeld2; clear hHeld2; ((try simp only [Act.put, List.setIfInBounds_toArray]); (try dsimp only [List.set_cons_zero, List.set_cons_succ]))); (refine wpAnyH_ready (rs := [11]) (by kernel_rfl) (by simp) ?_; refine AllReadyH.cons (o := _) rfl (fun K' hK => ?_) AllReadyH.nil; (refine step_append_sl_hpk rfl _ _ rfl Try.underlying71 slix.eInfo rfl (by decide) (by decide) hq.out 1 rfl rfl rfl (hsz0.out _ _ _) rfl (by intro u hu; cases hu) hbB.out hk11.out hz11.out ?_; intro v7 w7 h7 hv7; replace hq := Lib.hid h7; clear h7; obtain ⟨ad7, cp7, rfl⟩ := hv7); (try dsimp only); refine hK.out _ _ ?_ (fun hHeld2 => ?_); (focus ((try dsimp only); (first | exact boxc hq.out.drew (i := 1) rfl | exact boxc hq.out (i := 1) rfl | exact boxc hq.out (i := 2) rfl | exact boxc hq.out (i := 3) rfl); done)); clear hK K'; clear hHeld; have hHeld := hHeld2; clear hHeld2; ((try simp only [Act.put, List.setIfInBounds_toArray]); (try dsimp only [List.set_cons_zero, List.set_cons_succ]))); (refine take_t (i := 12) (d := 6) (oi := _) (v := ?_) rfl rfl (by kernel_rfl) (by kernel_rfl) (by kernel_rfl) (by rfl) ?_ (by assumption) ?_; rotate_left; (focus (intro w0 hSw; (try dsimp only at hSw); go_simp; (try with_reducible rfl); done)); ((try simp only [Act.put, List.setIfInBounds_toArray]); (try dsimp only [List.set_cons_zero, List.set_cons_succ])))
                          refine wpAnyH_done (by kernel_rfl) ?_ _; refine NoPanic.normal ?_
                          go_wp2
                          go_meet
                          exact ⟨A, ad3, cp3, ad7, cp7, rfl, rfl, hAS.out, hAm.out, hAl.out, (((hq.out.drop 5).drop 4).drop 0).perm (List.Perm.cons _ (List.Perm.swap _ _ _))⟩
                      · go_simp; (replace hq := Lib.hid (hq.out.drew.rowLit #[.int .i64 yl, .int .i64 yk, .int .i64 yd] 73 3 1 (by decide) rfl); (first | rw [hsz5.out] at hq | skip)); (try dsimp only); refine hK.out _ _ ?_ (fun hHeld2 => ?_); (focus ((try dsimp only); (first | exact boxc hq.out.drew (i := 1) rfl | exact boxc hq.out (i := 1) rfl | exact boxc hq.out (i := 2) rfl | exact boxc hq.out (i := 3) rfl); done)); clear hK K'; clear hHeld; have hHeld := hHeld2; clear hHeld2; ((try simp only [Act.put, List.setIfInBounds_toArray]); (try dsimp only [List.set_cons_zero, List.set_cons_succ]))
                        (refine wpAnyH_ready (rs := [0]) (by kernel_rfl) (by simp) ?_; refine AllReadyH.cons (o := _) rfl (fun K' hK => ?_) AllReadyH.nil; go_simp; (replace hq := Lib.hid (hq.out.rowLit #[] 73 3 0 (by decide) rfl); (first | rw [hsz5.out] at hq | skip)); (try dsimp only); refine hK.out _ _ ?_ (fun hHeld2 => ?_); (focus ((try dsimp only); (first | exact boxc hq.out.drew (i := 1) rfl | exact boxc hq.out (i := 1) rfl | exact boxc hq.out (i := 2) rfl | exact boxc hq.out (i := 3) rfl); done)); clear hK K'; clear hHeld; have hHeld := hHeld2; clear hHeld2; ((try simp only [Act.put, List.setIfInBounds_toArray]); (try dsimp only [List.set_cons_zero, List.set_cons_succ]))); (refine wpAnyH_ready (rs := [4]) (by kernel_rfl) (by simp) ?_; refine AllReadyH.cons (o := _) rfl (fun K' hK => ?_) AllReadyH.nil; (refine step_append_sl_hpk rfl _ _ rfl Try.underlying71 slix.eInfo rfl (by decide) (by decide) hq.out 0 rfl rfl rfl (hsz0.out _ _ _) rfl (by intro u hu; cases hu) hbA.out hk4.out hz4.out ?_; intro v5 w5 h5 hv5; replace hq := Lib.hid h5; clear h5; obtain ⟨ad5, cp5, rfl⟩ := hv5); (try dsimp only); refine hK.out _ _ ?_ (fun hHeld2 => ?_); (focus ((try dsimp only); (first | exact boxc hq.out.drew (i := 1) rfl | exact boxc hq.out (i := 1) rfl | exact boxc hq.out (i := 2) rfl | exact boxc hq.out (i := 3) rfl); done)); clear hK K'; clear hHeld; have hHeld := hHeld2; clear hHeld2; ((try simp only [Act.put, List.setIfInBounds_toArray]); (try dsimp only [List.set_cons_zero, List.set_cons_succ]))); (refine wpAnyH_ready (rs := [7]) (by kernel_rfl) (by simp) ?_; refine AllReadyH.cons (o := _) rfl (fun K' hK => ?_) AllReadyH.nil; (refine step_append_sl_hpk rfl _ _ rfl Try.underlying71 slix.eInfo rfl (by decide) (by decide) hq.out 0 rfl rfl rfl (hq.out.sl (i := 1) rfl hX0.out) hXl.out hX1.out hbX.out hk7.out hz7.out ?_; intro v6 w6 h6 hv6; replace hq := Lib.hid h6; clear h6; obtain ⟨ad6, cp6, rfl⟩ := hv6); (try dsimp only); refine hK.out _ _ ?_ (fun hHeld2 => ?_); (focus ((try dsimp only); (first | exact boxc hq.out.drew (i := 1) rfl | exact boxc hq.out (i := 1) rfl | exact boxc hq.out (i := 2) rfl | exact boxc hq.out (i := 3) rfl); done)); clear hK K'; clear hHeld; have hHeld := hHeld2; clear hHeld2; ((try simp only [Act.put, List.setIfInBounds_toArray]); (try dsimp only [List.set_cons_zero, List.set_cons_succ]))); (refine wpAnyH_ready (rs := [11]) (by kernel_rfl) (by simp) ?_; refine AllReadyH.cons (o := _) rfl (fun K' hK => ?_) AllReadyH.nil; (refine step_append_sl_hpk rfl _ _ rfl Try.underlying71 slix.eInfo rfl (by decide) (by decide) hq.out 0 rfl rfl rfl (hsz0.out _ _ _) rfl (by intro u hu; cases hu) hbB.out hk11.out hz11.out ?_; intro v7 w7 h7 hv7; replace hq := Lib.hid h7; clear h7; obtain ⟨ad7, cp7, rfl⟩ := hv7); (try dsimp only); refine hK.out _ _ ?_ (fun hHeld2 => ?_); (focus ((try dsimp only); (first | exact boxc hq.out.drew (i := 1) rfl | exact boxc hq.out (i := 1) rfl | exact boxc hq.out (i := 2) rfl | exact boxc hq.out (i := 3) rfl); done)); clear hK K'; clear hHeld; have hHeld := hHeld2; clear hHeld2; ((try simp only [Act.put, List.setIfInBounds_toArray]); (try dsimp only [List.set_cons_zero, List.set_cons_succ]))); (refine take_t (i := 12) (d := 6) (oi := _) (v := ?_) rfl rfl (by kernel_rfl) (by kernel_rfl) (by kernel_rfl) (by rfl) ?_ (by assumption) ?_; rotate_left; (focus (intro w0 hSw; (try dsimp only at hSw); go_simp; (try with_reducible rfl); done)); ((try simp only [Act.put, List.setIfInBounds_toArray]); (try dsimp only [List.set_cons_zero, List.set_cons_succ])))
                        refine wpAnyH_done (by kernel_rfl) ?_ _; refine NoPanic.normal ?_
                        go_wp2
                        go_meet
                        exact ⟨A, ad3, cp3, ad7, cp7, rfl, rfl, hAS.out, hAm.out, hAl.out, (((hq.out.drop 5).drop 4).drop 1).perm (List.Perm.cons _ (List.Perm.swap _ _ _))⟩
                    · injection hv with hv1 hv2 hv3
                      subst hv1 hv3
                      have hsA : ∀ W, W.ownsRow 0 73 3 (.slice (some ⟨g, 0, none⟩) L.length cp2) L.length (ixCells L) → ∀ c, Sl W (.slice (some ⟨g, 0, none⟩) j c) j (ixCells (L.take j)) := fun W h c => by
                        have := sl_part h 0 j c (by omega) (by omega)
                        simpa using this
                      have r1 : (0 : Int) ≤ (j : Int) := by omega
                      have r2 : (j : Int) ≤ (cp2 : Int) := by omega
                      have r4 : (j : Int) ≤ (L.length : Int) := by omega
                      have r5 : (L.length : Int) ≤ (cp2 : Int) := by omega
                      have hlA := Lib.hid (show (ixCells (L.take j)).length = j * 3 by rw [ixCells_len, List.length_take, Nat.min_eq_left (by omega)])
                      have hbA := Lib.hid (show 0 + j ≤ 100000000 by omega)
                      have hbX := Lib.hid (show j + 1 ≤ 100000000 by omega)
                      have hk4 := Lib.hid (show 0 + j = j by omega)
                      have hz4 := Lib.hid (show [] ++ ixCells (L.take j) = ixCells (L.take j) by rfl)
                      have hk7 := Lib.hid (show j + 1 = j + 1 by rfl)
                      have hz7 := Lib.hid (show ixCells (L.take j) ++ [Value.int .i64 yl, .int .i64 yk, .int .i64 yd] = ixCells (L.take j) ++ [Value.int .i64 yl, .int .i64 yk, .int .i64 yd] by rfl)
                      replace hsA := Lib.hid hsA
                      by_cases hc : cp2 = j
                      · have hLj : L.length = j := by omega
                        have hbB := Lib.hid (show j + 1 + 0 ≤ 100000000 by omega)
                        have hk11 := Lib.hid (show j + 1 + 0 = A.length by have := hAlen.out; omega)
                        have hz11 : (ixCells (L.take j) ++ [Value.int .i64 yl, .int .i64 yk, .int .i64 yd]) ++ [] = ixCells A := by rw [hxc.out, List.drop_of_length_le (by omega)]; rfl
                        replace hz11 := Lib.hid hz11; replace hLj := Lib.hid hLj
                        subst hc
                        refine wp_region_noPanic ?_; refine wp_region_held_drew (S := (fun W' => W'.cell? ⟨q, 0, none⟩ = some (.int .i64 yl) ∧ W'.cell? ⟨q, 1, none⟩ = some (.int .i64 yk) ∧ W'.cell? ⟨q, 2, none⟩ = some (.int .i64 yd))) (by kernel_rfl) ?_ (fun hHeld => ?_); (focus ((try dsimp only); (first | exact boxc hq.out.drew (i := 1) rfl | exact boxc hq.out (i := 1) rfl | exact boxc hq.out (i := 2) rfl | exact boxc hq.out (i := 3) rfl); done))
                        (refine take_t (i := 1) (d := 138) (oi := _) (v := ?_) rfl rfl (by kernel_rfl) (by kernel_rfl) (by kernel_rfl) (by rfl) ?_ (by assumption) ?_; rotate_left; (focus (intro w0 hSw; (try dsimp only at hSw); go_simp; (try with_reducible rfl); done)); ((try simp only [Act.put, List.setIfInBounds_toArray]); (try dsimp only [List.set_cons_zero, List.set_cons_succ]))); (refine take_t (i := 2) (d := 139) (oi := _) (v := ?_) rfl rfl (by kernel_rfl) (by kernel_rfl) (by kernel_rfl) (by rfl) ?_ (by assumption) ?_; rotate_left; (focus (intro w0 hSw; (try dsimp only at hSw); go_simp; (try with_reducible rfl); done)); ((try simp only [Act.put, List.setIfInBounds_toArray]); (try dsimp only [List.set_cons_zero, List.set_cons_succ]))); (refine take_t (i := 3) (d := 140) (oi := _) (v := ?_) rfl rfl (by kernel_rfl) (by kernel_rfl) (by kernel_rfl) (by rfl) ?_ (by assumption) ?_; rotate_left; (focus (intro w0 hSw; (try dsimp only at hSw); go_simp; (try with_reducible rfl); done)); ((try simp only [Act.put, List.setIfInBounds_toArray]); (try dsimp only [List.set_cons_zero, List.set_cons_succ]))); (refine take_t (i := 5) (d := 142) (oi := _) (v := ?_) rfl rfl (by kernel_rfl) (by kernel_rfl) (by kernel_rfl) (by rfl) ?_ (by assumption) ?_; rotate_left; (focus (intro w0 hSw; (try dsimp only at hSw); go_simp; (try with_reducible rfl); done)); ((try simp only [Act.put, List.setIfInBounds_toArray]); (try dsimp only [List.set_cons_zero, List.set_cons_succ]))); (refine take_t (i := 8) (d := 145) (oi := _) (v := ?_) rfl rfl (by kernel_rfl) (by kernel_rfl) (by kernel_rfl) (by rfl) ?_ (by assumption) ?_; rotate_left; (focus (intro w0 hSw; (try dsimp only at hSw); go_simp; (try with_reducible rfl); done)); ((try simp only [Act.put, List.setIfInBounds_toArray]); (try dsimp only [List.set_cons_zero, List.set_cons_succ]))); (refine take_t (i := 9) (d := 146) (oi := _) (v := ?_) rfl rfl (by kernel_rfl) (by kernel_rfl) (by kernel_rfl) (by rfl) ?_ (by assumption) ?_; rotate_left; (focus (intro w0 hSw; (try dsimp only at hSw); go_simp; (try with_reducible rfl); done)); ((try simp only [Act.put, List.setIfInBounds_toArray]); (try dsimp only [List.set_cons_zero, List.set_cons_succ]))); (refine take_t (i := 10) (d := 147) (oi := _) (v := ?_) rfl rfl (by kernel_rfl) (by kernel_rfl) (by kernel_rfl) (by rfl) ?_ (by assumption) ?_; rotate_left; (focus (intro w0 hSw; (try dsimp only at hSw); go_simp; (try with_reducible rfl); done)); ((try simp only [Act.put, List.setIfInBounds_toArray]); (try dsimp only [List.set_cons_zero, List.set_cons_succ])))
                        refine wpAnyH_ready (rs := [0, 6]) (by kernel_rfl) (by simp) ?_; refine AllReadyH.cons (o := _) rfl (fun K' hK => ?_) (AllReadyH.cons (o := _) rfl (fun K' hK => ?_) AllReadyH.nil)
                        · go_simp; (replace hq := Lib.hid (hq.out.drew.rowLit #[] 73 3 0 (by decide) rfl); (first | rw [hsz5.out] at hq | skip)); (try dsimp only); refine hK.out _ _ ?_ (fun hHeld2 => ?_); (focus ((try dsimp only); (first | exact boxc hq.out.drew (i := 1) rfl | exact boxc hq.out (i := 1) rfl | exact boxc hq.out (i := 2) rfl | exact boxc hq.out (i := 3) rfl); done)); clear hK K'; clear hHeld; have hHeld := hHeld2; clear hHeld2; ((try simp only [Act.put, List.setIfInBounds_toArray]); (try dsimp only [List.set_cons_zero, List.set_cons_succ]))
                          refine wpAnyH_ready (rs := [4, 6]) (by kernel_rfl) (by simp) ?_; refine AllReadyH.cons (o := _) rfl (fun K' hK => ?_) (AllReadyH.cons (o := _) rfl (fun K' hK => ?_) AllReadyH.nil)
                          · refine step_append_sl_hpk rfl _ _ rfl Try.underlying71 slix.eInfo rfl (by decide) (by decide) hq.out 0 rfl rfl rfl (hsA.out _ (hq.out.row (i := 3) rfl) _) hlA.out (ixCells_one _) hbA.out hk4.out hz4.out ?_; intro v5 w5 h5 hv5; replace hq := Lib.hid h5; clear h5; obtain ⟨ad5, cp5, rfl⟩ := hv5
                            (try dsimp only); refine hK.out _ _ ?_ (fun hHeld2 => ?_); (focus ((try dsimp only); (first | exact boxc hq.out.drew (i := 1) rfl | exact boxc hq.out (i := 1) rfl | exact boxc hq.out (i := 2) rfl | exact boxc hq.out (i := 3) rfl); done)); clear hK K'; clear hHeld; have hHeld := hHeld2; clear hHeld2; ((try simp only [Act.put, List.setIfInBounds_toArray]); (try dsimp only [List.set_cons_zero, List.set_cons_succ]))
                            (refine wpAnyH_ready (rs := [6]) (by kernel_rfl) (by simp) ?_; refine AllReadyH.cons (o := _) rfl (fun K' hK => ?_) AllReadyH.nil; go_simp; (replace hq := Lib.hid (hq.out.rowLit #[.int .i64 yl, .int .i64 yk, .int .i64 yd] 73 3 1 (by decide) rfl); (first | rw [hsz5.out] at hq | skip)); (try dsimp only); refine hK.out _ _ ?_ (fun hHeld2 => ?_); (focus ((try dsimp only); (first | exact boxc hq.out.drew (i := 1) rfl | exact boxc hq.out (i := 1) rfl | exact boxc hq.out (i := 2) rfl | exact boxc hq.out (i := 3) rfl); done)); clear hK K'; clear hHeld; have hHeld := hHeld2; clear hHeld2; ((try simp only [Act.put, List.setIfInBounds_toArray]); (try dsimp only [List.set_cons_zero, List.set_cons_succ]))); (refine wpAnyH_ready (rs := [7]) (by kernel_rfl) (by simp) ?_; refine AllReadyH.cons (o := _) rfl (fun K' hK => ?_) AllReadyH.nil; (refine step_append_sl_hpk rfl _ _ rfl Try.underlying71 slix.eInfo rfl (by decide) (by decide) hq.out 1 rfl rfl rfl (hq.out.sl (i := 0) rfl hX0.out) hXl.out hX1.out hbX.out hk7.out hz7.out ?_; intro v6 w6 h6 hv6; replace hq := Lib.hid h6; clear h6; obtain ⟨ad6, cp6, rfl⟩ := hv6); (try dsimp only); refine hK.out _ _ ?_ (fun hHeld2 => ?_); (focus ((try dsimp only); (first | exact boxc hq.out.drew (i := 1) rfl | exact boxc hq.out (i := 1) rfl | exact boxc hq.out (i := 2) rfl | exact boxc hq.out (i := 3) rfl); done)); clear hK K'; clear hHeld; have hHeld := hHeld2; clear hHeld2; ((try simp only [Act.put, List.setIfInBounds_toArray]); (try dsimp only [List.set_cons_zero, List.set_cons_succ]))); (refine wpAnyH_ready (rs := [11]) (by kernel_rfl) (by simp) ?_; refine AllReadyH.cons (o := _) rfl (fun K' hK => ?_) AllReadyH.nil; (refine step_append_sl_hpk rfl _ _ rfl Try.underlying71 slix.eInfo rfl (by decide) (by decide) hq.out 1 rfl rfl rfl (hsz0.out _ _ _) rfl (by intro u hu; cases hu) hbB.out hk11.out hz11.out ?_; intro v7 w7 h7 hv7; replace hq := Lib.hid h7; clear h7; obtain ⟨ad7, cp7, rfl⟩ := hv7); (try dsimp only); refine hK.out _ _ ?_ (fun hHeld2 => ?_); (focus ((try dsimp only); (first | exact boxc hq.out.drew (i := 1) rfl | exact boxc hq.out (i := 1) rfl | exact boxc hq.out (i := 2) rfl | exact boxc hq.out (i := 3) rfl); done)); clear hK K'; clear hHeld; have hHeld := hHeld2; clear hHeld2; ((try simp only [Act.put, List.setIfInBounds_toArray]); (try dsimp only [List.set_cons_zero, List.set_cons_succ]))); (refine take_t (i := 12) (d := 6) (oi := _) (v := ?_) rfl rfl (by kernel_rfl) (by kernel_rfl) (by kernel_rfl) (by rfl) ?_ (by assumption) ?_; rotate_left; (focus (intro w0 hSw; (try dsimp only at hSw); go_simp; (try with_reducible rfl); done)); ((try simp only [Act.put, List.setIfInBounds_toArray]); (try dsimp only [List.set_cons_zero, List.set_cons_succ])))
                            refine wpAnyH_done (by kernel_rfl) ?_ _; refine NoPanic.normal ?_
                            go_wp2
                            go_meet
                            exact ⟨A, ad3, cp3, ad7, cp7, rfl, rfl, hAS.out, hAm.out, hAl.out, (((hq.out.drop 5).drop 4).drop 0).perm (List.Perm.cons _ (List.Perm.swap _ _ _))⟩
                          · go_simp; (replace hq := Lib.hid (hq.out.rowLit #[.int .i64 yl, .int .i64 yk, .int .i64 yd] 73 3 1 (by decide) rfl); (first | rw [hsz5.out] at hq | skip)); (try dsimp only); refine hK.out _ _ ?_ (fun hHeld2 => ?_); (focus ((try dsimp only); (first | exact boxc hq.out.drew (i := 1) rfl | exact boxc hq.out (i := 1) rfl | exact boxc hq.out (i := 2) rfl | exact boxc hq.out (i := 3) rfl); done)); clear hK K'; clear hHeld; have hHeld := hHeld2; clear hHeld2; ((try simp only [Act.put, List.setIfInBounds_toArray]); (try dsimp only [List.set_cons_zero, List.set_cons_succ]))
                            (refine wpAnyH_ready (rs := [4]) (by kernel_rfl) (by simp) ?_; refine AllReadyH.cons (o := _) rfl (fun K' hK => ?_) AllReadyH.nil; (refine step_append_sl_hpk rfl _ _ rfl Try.underlying71 slix.eInfo rfl (by decide) (by decide) hq.out 1 rfl rfl rfl (hsA.out _ (hq.out.row (i := 4) rfl) _) hlA.out (ixCells_one _) hbA.out hk4.out hz4.out ?_; intro v5 w5 h5 hv5; replace hq := Lib.hid h5; clear h5; obtain ⟨ad5, cp5, rfl⟩ := hv5); (try dsimp only); refine hK.out _ _ ?_ (fun hHeld2 => ?_); (focus ((try dsimp only); (first | exact boxc hq.out.drew (i := 1) rfl | exact boxc hq.out (i := 1) rfl | exact boxc hq.out (i := 2) rfl | exact boxc hq.out (i := 3) rfl); done)); clear hK K'; clear hHeld; have hHeld := hHeld2; clear hHeld2; ((try simp only [Act.put, List.setIfInBounds_toArray]); (try dsimp only [List.set_cons_zero, List.set_cons_succ]))); (refine wpAnyH_ready (rs := [7]) (by kernel_rfl) (by simp) ?_; refine AllReadyH.cons (o := _) rfl (fun K' hK => ?_) AllReadyH.nil; (refine step_append_sl_hpk rfl _ _ rfl Try.underlying71 slix.eInfo rfl (by decide) (by decide) hq.out 1 rfl rfl rfl (hq.out.sl (i := 0) rfl hX0.out) hXl.out hX1.out hbX.out hk7.out hz7.out ?_; intro v6 w6 h6 hv6; replace hq := Lib.hid h6; clear h6; obtain ⟨ad6, cp6, rfl⟩ := hv6); (try dsimp only); refine hK.out _ _ ?_ (fun hHeld2 => ?_); (focus ((try dsimp only); (first | exact boxc hq.out.drew (i := 1) rfl | exact boxc hq.out (i := 1) rfl | exact boxc hq.out (i := 2) rfl | exact boxc hq.out (i := 3) rfl); done)); clear hK K'; clear hHeld; have hHeld := hHeld2; clear hHeld2; ((try simp only [Act.put, List.setIfInBounds_toArray]); (try dsimp only [List.set_cons_zero, List.set_cons_succ]))); (refine wpAnyH_ready (rs := [11]) (by kernel_rfl) (by simp) ?_; refine AllReadyH.cons (o := _) rfl (fun K' hK => ?_) AllReadyH.nil; (refine step_append_sl_hpk rfl _ _ rfl Try.underlying71 slix.eInfo rfl (by decide) (by decide) hq.out 1 rfl rfl rfl (hsz0.out _ _ _) rfl (by intro u hu; cases hu) hbB.out hk11.out hz11.out ?_; intro v7 w7 h7 hv7; replace hq := Lib.hid h7; clear h7; obtain ⟨ad7, cp7, rfl⟩ := hv7); (try dsimp only); refine hK.out _ _ ?_ (fun hHeld2 => ?_); (focus ((try dsimp only); (first | exact boxc hq.out.drew (i := 1) rfl | exact boxc hq.out (i := 1) rfl | exact boxc hq.out (i := 2) rfl | exact boxc hq.out (i := 3) rfl); done)); clear hK K'; clear hHeld; have hHeld := hHeld2; clear hHeld2; ((try simp only [Act.put, List.setIfInBounds_toArray]); (try dsimp only [List.set_cons_zero, List.set_cons_succ]))); (refine take_t (i := 12) (d := 6) (oi := _) (v := ?_) rfl rfl (by kernel_rfl) (by kernel_rfl) (by kernel_rfl) (by rfl) ?_ (by assumption) ?_; rotate_left; (focus (intro w0 hSw; (try dsimp only at hSw); go_simp; (try with_reducible rfl); done)); ((try simp only [Act.put, List.setIfInBounds_toArray]); (try dsimp only [List.set_cons_zero, List.set_cons_succ])))
                            refine wpAnyH_done (by kernel_rfl) ?_ _; refine NoPanic.normal ?_
                            go_wp2
                            go_meet
                            exact ⟨A, ad3, cp3, ad7, cp7, rfl, rfl, hAS.out, hAm.out, hAl.out, (((hq.out.drop 5).drop 4).drop 0).perm (List.Perm.cons _ (List.Perm.swap _ _ _))⟩
                        · go_simp; (replace hq := Lib.hid (hq.out.drew.rowLit #[.int .i64 yl, .int .i64 yk, .int .i64 yd] 73 3 1 (by decide) rfl); (first | rw [hsz5.out] at hq | skip)); (try dsimp only); refine hK.out _ _ ?_ (fun hHeld2 => ?_); (focus ((try dsimp only); (first | exact boxc hq.out.drew (i := 1) rfl | exact boxc hq.out (i := 1) rfl | exact boxc hq.out (i := 2) rfl | exact boxc hq.out (i := 3) rfl); done)); clear hK K'; clear hHeld; have hHeld := hHeld2; clear hHeld2; ((try simp only [Act.put, List.setIfInBounds_toArray]); (try dsimp only [List.set_cons_zero, List.set_cons_succ]))
                          (refine wpAnyH_ready (rs := [0]) (by kernel_rfl) (by simp) ?_; refine AllReadyH.cons (o := _) rfl (fun K' hK => ?_) AllReadyH.nil; go_simp; (replace hq := Lib.hid (hq.out.rowLit #[] 73 3 0 (by decide) rfl); (first | rw [hsz5.out] at hq | skip)); (try dsimp only); refine hK.out _ _ ?_ (fun hHeld2 => ?_); (focus ((try dsimp only); (first | exact boxc hq.out.drew (i := 1) rfl | exact boxc hq.out (i := 1) rfl | exact boxc hq.out (i := 2) rfl | exact boxc hq.out (i := 3) rfl); done)); clear hK K'; clear hHeld; have hHeld := hHeld2; clear hHeld2; ((try simp only [Act.put, List.setIfInBounds_toArray]); (try dsimp only [List.set_cons_zero, List.set_cons_succ]))); (refine wpAnyH_ready (rs := [4]) (by kernel_rfl) (by simp) ?_; refine AllReadyH.cons (o := _) rfl (fun K' hK => ?_) AllReadyH.nil; (refine step_append_sl_hpk rfl _ _ rfl Try.underlying71 slix.eInfo rfl (by decide) (by decide) hq.out 0 rfl rfl rfl (hsA.out _ (hq.out.row (i := 4) rfl) _) hlA.out (ixCells_one _) hbA.out hk4.out hz4.out ?_; intro v5 w5 h5 hv5; replace hq := Lib.hid h5; clear h5; obtain ⟨ad5, cp5, rfl⟩ := hv5); (try dsimp only); refine hK.out _ _ ?_ (fun hHeld2 => ?_); (focus ((try dsimp only); (first | exact boxc hq.out.drew (i := 1) rfl | exact boxc hq.out (i := 1) rfl | exact boxc hq.out (i := 2) rfl | exact boxc hq.out (i := 3) rfl); done)); clear hK K'; clear hHeld; have hHeld := hHeld2; clear hHeld2; ((try simp only [Act.put, List.setIfInBounds_toArray]); (try dsimp only [List.set_cons_zero, List.set_cons_succ]))); (refine wpAnyH_ready (rs := [7]) (by kernel_rfl) (by simp) ?_; refine AllReadyH.cons (o := _) rfl (fun K' hK => ?_) AllReadyH.nil; (refine step_append_sl_hpk rfl _ _ rfl Try.underlying71 slix.eInfo rfl (by decide) (by decide) hq.out 0 rfl rfl rfl (hq.out.sl (i := 1) rfl hX0.out) hXl.out hX1.out hbX.out hk7.out hz7.out ?_; intro v6 w6 h6 hv6; replace hq := Lib.hid h6; clear h6; obtain ⟨ad6, cp6, rfl⟩ := hv6); (try dsimp only); refine hK.out _ _ ?_ (fun hHeld2 => ?_); (focus ((try dsimp only); (first | exact boxc hq.out.drew (i := 1) rfl | exact boxc hq.out (i := 1) rfl | exact boxc hq.out (i := 2) rfl | exact boxc hq.out (i := 3) rfl); done)); clear hK K'; clear hHeld; have hHeld := hHeld2; clear hHeld2; ((try simp only [Act.put, List.setIfInBounds_toArray]); (try dsimp only [List.set_cons_zero, List.set_cons_succ]))); (refine wpAnyH_ready (rs := [11]) (by kernel_rfl) (by simp) ?_; refine AllReadyH.cons (o := _) rfl (fun K' hK => ?_) AllReadyH.nil; (refine step_append_sl_hpk rfl _ _ rfl Try.underlying71 slix.eInfo rfl (by decide) (by decide) hq.out 0 rfl rfl rfl (hsz0.out _ _ _) rfl (by intro u hu; cases hu) hbB.out hk11.out hz11.out ?_; intro v7 w7 h7 hv7; replace hq := Lib.hid h7; clear h7; obtain ⟨ad7, cp7, rfl⟩ := hv7); (try dsimp only); refine hK.out _ _ ?_ (fun hHeld2 => ?_); (focus ((try dsimp only); (first | exact boxc hq.out.drew (i := 1) rfl | exact boxc hq.out (i := 1) rfl | exact boxc hq.out (i := 2) rfl | exact boxc hq.out (i := 3) rfl); done)); clear hK K'; clear hHeld; have hHeld := hHeld2; clear hHeld2; ((try simp only [Act.put, List.setIfInBounds_toArray]); (try dsimp only [List.set_cons_zero, List.set_cons_succ]))); (refine take_t (i := 12) (d := 6) (oi := _) (v := ?_) rfl rfl (by kernel_rfl) (by kernel_rfl) (by kernel_rfl) (by rfl) ?_ (by assumption) ?_; rotate_left; (focus (intro w0 hSw; (try dsimp only at hSw); go_simp; (try with_reducible rfl); done)); ((try simp only [Act.put, List.setIfInBounds_toArray]); (try dsimp only [List.set_cons_zero, List.set_cons_succ])))
                          refine wpAnyH_done (by kernel_rfl) ?_ _; refine NoPanic.normal ?_
                          go_wp2
                          go_meet
                          exact ⟨A, ad3, cp3, ad7, cp7, rfl, rfl, hAS.out, hAm.out, hAl.out, (((hq.out.drop 5).drop 4).drop 1).perm (List.Perm.cons _ (List.Perm.swap _ _ _))⟩
                      · have hsB : ∀ W, W.ownsRow 0 73 3 (.slice (some ⟨g, 0, none⟩) L.length cp2) L.length (ixCells L) → ∀ c, Sl W (.slice (some ⟨g, j * 3, none⟩) (L.length - j) c) (L.length - j) (ixCells (L.drop j)) := fun W h c => by
                          have := sl_part h j (L.length - j) c (by omega) (by omega)
                          rwa [List.take_of_length_le (by simp)] at this
                        have hlB := Lib.hid (show (ixCells (L.drop j)).length = (L.length - j) * 3 by rw [ixCells_len, List.length_drop])
                        have hbB := Lib.hid (show j + 1 + (L.length - j) ≤ 100000000 by omega)
                        have hk11 := Lib.hid (show j + 1 + (L.length - j) = A.length by have := hAlen.out; omega)
                        have hz11 : (ixCells (L.take j) ++ [Value.int .i64 yl, .int .i64 yk, .int .i64 yd]) ++ ixCells (L.drop j) = ixCells A := by rw [hxc.out]; rfl
                        replace hz11 := Lib.hid hz11
                        replace hsB := Lib.hid hsB
                        refine wp_region_noPanic ?_; refine wp_region_held_drew (S := (fun W' => W'.cell? ⟨q, 0, none⟩ = some (.int .i64 yl) ∧ W'.cell? ⟨q, 1, none⟩ = some (.int .i64 yk) ∧ W'.cell? ⟨q, 2, none⟩ = some (.int .i64 yd))) (by kernel_rfl) ?_ (fun hHeld => ?_); (focus ((try dsimp only); (first | exact boxc hq.out.drew (i := 1) rfl | exact boxc hq.out (i := 1) rfl | exact boxc hq.out (i := 2) rfl | exact boxc hq.out (i := 3) rfl); done))
                        (refine take_t (i := 1) (d := 138) (oi := _) (v := ?_) rfl rfl (by kernel_rfl) (by kernel_rfl) (by kernel_rfl) (by rfl) ?_ (by assumption) ?_; rotate_left; (focus (intro w0 hSw; (try dsimp only at hSw); go_simp; (try with_reducible rfl); done)); ((try simp only [Act.put, List.setIfInBounds_toArray]); (try dsimp only [List.set_cons_zero, List.set_cons_succ]))); (refine take_t (i := 2) (d := 139) (oi := _) (v := ?_) rfl rfl (by kernel_rfl) (by kernel_rfl) (by kernel_rfl) (by rfl) ?_ (by assumption) ?_; rotate_left; (focus (intro w0 hSw; (try dsimp only at hSw); go_simp; (try with_reducible rfl); done)); ((try simp only [Act.put, List.setIfInBounds_toArray]); (try dsimp only [List.set_cons_zero, List.set_cons_succ]))); (refine take_t (i := 3) (d := 140) (oi := _) (v := ?_) rfl rfl (by kernel_rfl) (by kernel_rfl) (by kernel_rfl) (by rfl) ?_ (by assumption) ?_; rotate_left; (focus (intro w0 hSw; (try dsimp only at hSw); go_simp; (try with_reducible rfl); done)); ((try simp only [Act.put, List.setIfInBounds_toArray]); (try dsimp only [List.set_cons_zero, List.set_cons_succ]))); (refine take_t (i := 5) (d := 142) (oi := _) (v := ?_) rfl rfl (by kernel_rfl) (by kernel_rfl) (by kernel_rfl) (by rfl) ?_ (by assumption) ?_; rotate_left; (focus (intro w0 hSw; (try dsimp only at hSw); go_simp; (try with_reducible rfl); done)); ((try simp only [Act.put, List.setIfInBounds_toArray]); (try dsimp only [List.set_cons_zero, List.set_cons_succ]))); (refine take_t (i := 8) (d := 145) (oi := _) (v := ?_) rfl rfl (by kernel_rfl) (by kernel_rfl) (by kernel_rfl) (by rfl) ?_ (by assumption) ?_; rotate_left; (focus (intro w0 hSw; (try dsimp only at hSw); go_simp; (try with_reducible rfl); done)); ((try simp only [Act.put, List.setIfInBounds_toArray]); (try dsimp only [List.set_cons_zero, List.set_cons_succ]))); (refine take_t (i := 9) (d := 146) (oi := _) (v := ?_) rfl rfl (by kernel_rfl) (by kernel_rfl) (by kernel_rfl) (by rfl) ?_ (by assumption) ?_; rotate_left; (focus (intro w0 hSw; (try dsimp only at hSw); go_simp; (try with_reducible rfl); done)); ((try simp only [Act.put, List.setIfInBounds_toArray]); (try dsimp only [List.set_cons_zero, List.set_cons_succ]))); (refine take_t (i := 10) (d := 147) (oi := _) (v := ?_) rfl rfl (by kernel_rfl) (by kernel_rfl) (by kernel_rfl) (by rfl) ?_ (by assumption) ?_; rotate_left; (focus (intro w0 hSw; (try dsimp only at hSw); go_simp; (try with_reducible rfl); done)); ((try simp only [Act.put, List.setIfInBounds_toArray]); (try dsimp only [List.set_cons_zero, List.set_cons_succ])))
                        refine wpAnyH_ready (rs := [0, 6]) (by kernel_rfl) (by simp) ?_; refine AllReadyH.cons (o := _) rfl (fun K' hK => ?_) (AllReadyH.cons (o := _) rfl (fun K' hK => ?_) AllReadyH.nil)
                        · go_simp; (replace hq := Lib.hid (hq.out.drew.rowLit #[] 73 3 0 (by decide) rfl); (first | rw [hsz5.out] at hq | skip)); (try dsimp only); refine hK.out _ _ ?_ (fun hHeld2 => ?_); (focus ((try dsimp only); (first | exact boxc hq.out.drew (i := 1) rfl | exact boxc hq.out (i := 1) rfl | exact boxc hq.out (i := 2) rfl | exact boxc hq.out (i := 3) rfl); done)); clear hK K'; clear hHeld; have hHeld := hHeld2; clear hHeld2; ((try simp only [Act.put, List.setIfInBounds_toArray]); (try dsimp only [List.set_cons_zero, List.set_cons_succ]))
                          refine wpAnyH_ready (rs := [4, 6]) (by kernel_rfl) (by simp) ?_; refine AllReadyH.cons (o := _) rfl (fun K' hK => ?_) (AllReadyH.cons (o := _) rfl (fun K' hK => ?_) AllReadyH.nil)
                          · refine step_append_sl_hpk rfl _ _ rfl Try.underlying71 slix.eInfo rfl (by decide) (by decide) hq.out 0 rfl rfl rfl (hsA.out _ (hq.out.row (i := 3) rfl) _) hlA.out (ixCells_one _) hbA.out hk4.out hz4.out ?_; intro v5 w5 h5 hv5; replace hq := Lib.hid h5; clear h5; obtain ⟨ad5, cp5, rfl⟩ := hv5
                            (try dsimp only); refine hK.out _ _ ?_ (fun hHeld2 => ?_); (focus ((try dsimp only); (first | exact boxc hq.out.drew (i := 1) rfl | exact boxc hq.out (i := 1) rfl | exact boxc hq.out (i := 2) rfl | exact boxc hq.out (i := 3) rfl); done)); clear hK K'; clear hHeld; have hHeld := hHeld2; clear hHeld2; ((try simp only [Act.put, List.setIfInBounds_toArray]); (try dsimp only [List.set_cons_zero, List.set_cons_succ]))
                            (refine wpAnyH_ready (rs := [6]) (by kernel_rfl) (by simp) ?_; refine AllReadyH.cons (o := _) rfl (fun K' hK => ?_) AllReadyH.nil; go_simp; (replace hq := Lib.hid (hq.out.rowLit #[.int .i64 yl, .int .i64 yk, .int .i64 yd] 73 3 1 (by decide) rfl); (first | rw [hsz5.out] at hq | skip)); (try dsimp only); refine hK.out _ _ ?_ (fun hHeld2 => ?_); (focus ((try dsimp only); (first | exact boxc hq.out.drew (i := 1) rfl | exact boxc hq.out (i := 1) rfl | exact boxc hq.out (i := 2) rfl | exact boxc hq.out (i := 3) rfl); done)); clear hK K'; clear hHeld; have hHeld := hHeld2; clear hHeld2; ((try simp only [Act.put, List.setIfInBounds_toArray]); (try dsimp only [List.set_cons_zero, List.set_cons_succ]))); (refine wpAnyH_ready (rs := [7]) (by kernel_rfl) (by simp) ?_; refine AllReadyH.cons (o := _) rfl (fun K' hK => ?_) AllReadyH.nil; (refine step_append_sl_hpk rfl _ _ rfl Try.underlying71 slix.eInfo rfl (by decide) (by decide) hq.out 1 rfl rfl rfl (hq.out.sl (i := 0) rfl hX0.out) hXl.out hX1.out hbX.out hk7.out hz7.out ?_; intro v6 w6 h6 hv6; replace hq := Lib.hid h6; clear h6; obtain ⟨ad6, cp6, rfl⟩ := hv6); (try dsimp only); refine hK.out _ _ ?_ (fun hHeld2 => ?_); (focus ((try dsimp only); (first | exact boxc hq.out.drew (i := 1) rfl | exact boxc hq.out (i := 1) rfl | exact boxc hq.out (i := 2) rfl | exact boxc hq.out (i := 3) rfl); done)); clear hK K'; clear hHeld; have hHeld := hHeld2; clear hHeld2; ((try simp only [Act.put, List.setIfInBounds_toArray]); (try dsimp only [List.set_cons_zero, List.set_cons_succ]))); (refine wpAnyH_ready (rs := [11]) (by kernel_rfl) (by simp) ?_; refine AllReadyH.cons (o := _) rfl (fun K' hK => ?_) AllReadyH.nil; (refine step_append_sl_hpk rfl _ _ rfl Try.underlying71 slix.eInfo rfl (by decide) (by decide) hq.out 1 rfl rfl rfl (hsB.out _ (hq.out.row (i := 4) rfl) _) hlB.out (ixCells_one _) hbB.out hk11.out hz11.out ?_; intro v7 w7 h7 hv7; replace hq := Lib.hid h7; clear h7; obtain ⟨ad7, cp7, rfl⟩ := hv7); (try dsimp only); refine hK.out _ _ ?_ (fun hHeld2 => ?_); (focus ((try dsimp only); (first | exact boxc hq.out.drew (i := 1) rfl | exact boxc hq.out (i := 1) rfl | exact boxc hq.out (i := 2) rfl | exact boxc hq.out (i := 3) rfl); done)); clear hK K'; clear hHeld; have hHeld := hHeld2; clear hHeld2; ((try simp only [Act.put, List.setIfInBounds_toArray]); (try dsimp only [List.set_cons_zero, List.set_cons_succ]))); (refine take_t (i := 12) (d := 6) (oi := _) (v := ?_) rfl rfl (by kernel_rfl) (by kernel_rfl) (by kernel_rfl) (by rfl) ?_ (by assumption) ?_; rotate_left; (focus (intro w0 hSw; (try dsimp only at hSw); go_simp; (try with_reducible rfl); done)); ((try simp only [Act.put, List.setIfInBounds_toArray]); (try dsimp only [List.set_cons_zero, List.set_cons_succ])))
                            refine wpAnyH_done (by kernel_rfl) ?_ _; refine NoPanic.normal ?_
                            go_wp2
                            go_meet
                            exact ⟨A, ad3, cp3, ad7, cp7, rfl, rfl, hAS.out, hAm.out, hAl.out, (((hq.out.drop 5).drop 4).drop 0).perm (List.Perm.cons _ (List.Perm.swap _ _ _))⟩
                          · go_simp; (replace hq := Lib.hid (hq.out.rowLit #[.int .i64 yl, .int .i64 yk, .int .i64 yd] 73 3 1 (by decide) rfl); (first | rw [hsz5.out] at hq | skip)); (try dsimp only); refine hK.out _ _ ?_ (fun hHeld2 => ?_); (focus ((try dsimp only); (first | exact boxc hq.out.drew (i := 1) rfl | exact boxc hq.out (i := 1) rfl | exact boxc hq.out (i := 2) rfl | exact boxc hq.out (i := 3) rfl); done)); clear hK K'; clear hHeld; have hHeld := hHeld2; clear hHeld2; ((try simp only [Act.put, List.setIfInBounds_toArray]); (try dsimp only [List.set_cons_zero, List.set_cons_succ]))
                            (refine wpAnyH_ready (rs := [4]) (by kernel_rfl) (by simp) ?_; refine AllReadyH.cons (o := _) rfl (fun K' hK => ?_) AllReadyH.nil; (refine step_append_sl_hpk rfl _ _ rfl Try.underlying71 slix.eInfo rfl (by decide) (by decide) hq.out 1 rfl rfl rfl (hsA.out _ (hq.out.row (i := 4) rfl) _) hlA.out (ixCells_one _) hbA.out hk4.out hz4.out ?_; intro v5 w5 h5 hv5; replace hq := Lib.hid h5; clear h5; obtain ⟨ad5, cp5, rfl⟩ := hv5); (try dsimp only); refine hK.out _ _ ?_ (fun hHeld2 => ?_); (focus ((try dsimp only); (first | exact boxc hq.out.drew (i := 1) rfl | exact boxc hq.out (i := 1) rfl | exact boxc hq.out (i := 2) rfl | exact boxc hq.out (i := 3) rfl); done)); clear hK K'; clear hHeld; have hHeld := hHeld2; clear hHeld2; ((try simp only [Act.put, List.setIfInBounds_toArray]); (try dsimp only [List.set_cons_zero, List.set_cons_succ]))); (refine wpAnyH_ready (rs := [7]) (by kernel_rfl) (by simp) ?_; refine AllReadyH.cons (o := _) rfl (fun K' hK => ?_) AllReadyH.nil; (refine step_append_sl_hpk rfl _ _ rfl Try.underlying71 slix.eInfo rfl (by decide) (by decide) hq.out 1 rfl rfl rfl (hq.out.sl (i := 0) rfl hX0.out) hXl.out hX1.out hbX.out hk7.out hz7.out ?_; intro v6 w6 h6 hv6; replace hq := Lib.hid h6; clear h6; obtain ⟨ad6, cp6, rfl⟩ := hv6); (try dsimp only); refine hK.out _ _ ?_ (fun hHeld2 => ?_); (focus ((try dsimp only); (first | exact boxc hq.out.drew (i := 1) rfl | exact boxc hq.out (i := 1) rfl | exact boxc hq.out (i := 2) rfl | exact boxc hq.out (i := 3) rfl); done)); clear hK K'; clear hHeld; have hHeld := hHeld2; clear hHeld2; ((try simp only [Act.put, List.setIfInBounds_toArray]); (try dsimp only [List.set_cons_zero, List.set_cons_succ]))); (refine wpAnyH_ready (rs := [11]) (by kernel_rfl) (by simp) ?_; refine AllReadyH.cons (o := _) rfl (fun K' hK => ?_) AllReadyH.nil; (refine step_append_sl_hpk rfl _ _ rfl Try.underlying71 slix.eInfo rfl (by decide) (by decide) hq.out 1 rfl rfl rfl (hsB.out _ (hq.out.row (i := 4) rfl) _) hlB.out (ixCells_one _) hbB.out hk11.out hz11.out ?_; intro v7 w7 h7 hv7; replace hq := Lib.hid h7; clear h7; obtain ⟨ad7, cp7, rfl⟩ := hv7); (try dsimp only); refine hK.out _ _ ?_ (fun hHeld2 => ?_); (focus ((try dsimp only); (first | exact boxc hq.out.drew (i := 1) rfl | exact boxc hq.out (i := 1) rfl | exact boxc hq.out (i := 2) rfl | exact boxc hq.out (i := 3) rfl); done)); clear hK K'; clear hHeld; have hHeld := hHeld2; clear hHeld2; ((try simp only [Act.put, List.setIfInBounds_toArray]); (try dsimp only [List.set_cons_zero, List.set_cons_succ]))); (refine take_t (i := 12) (d := 6) (oi := _) (v := ?_) rfl rfl (by kernel_rfl) (by kernel_rfl) (by kernel_rfl) (by rfl) ?_ (by assumption) ?_; rotate_left; (focus (intro w0 hSw; (try dsimp only at hSw); go_simp; (try with_reducible rfl); done)); ((try simp only [Act.put, List.setIfInBounds_toArray]); (try dsimp only [List.set_cons_zero, List.set_cons_succ])))
                            refine wpAnyH_done (by kernel_rfl) ?_ _; refine NoPanic.normal ?_
                            go_wp2
                            go_meet
                            exact ⟨A, ad3, cp3, ad7, cp7, rfl, rfl, hAS.out, hAm.out, hAl.out, (((hq.out.drop 5).drop 4).drop 0).perm (List.Perm.cons _ (List.Perm.swap _ _ _))⟩
                        · go_simp; (replace hq := Lib.hid (hq.out.drew.rowLit #[.int .i64 yl, .int .i64 yk, .int .i64 yd] 73 3 1 (by decide) rfl); (first | rw [hsz5.out] at hq | skip)); (try dsimp only); refine hK.out _ _ ?_ (fun hHeld2 => ?_); (focus ((try dsimp only); (first | exact boxc hq.out.drew (i := 1) rfl | exact boxc hq.out (i := 1) rfl | exact boxc hq.out (i := 2) rfl | exact boxc hq.out (i := 3) rfl); done)); clear hK K'; clear hHeld; have hHeld := hHeld2; clear hHeld2; ((try simp only [Act.put, List.setIfInBounds_toArray]); (try dsimp only [List.set_cons_zero, List.set_cons_succ]))
                          (refine wpAnyH_ready (rs := [0]) (by kernel_rfl) (by simp) ?_; refine AllReadyH.cons (o := _) rfl (fun K' hK => ?_) AllReadyH.nil; go_simp; (replace hq := Lib.hid (hq.out.rowLit #[] 73 3 0 (by decide) rfl); (first | rw [hsz5.out] at hq | skip)); (try dsimp only); refine hK.out _ _ ?_ (fun hHeld2 => ?_); (focus ((try dsimp only); (first | exact boxc hq.out.drew (i := 1) rfl | exact boxc hq.out (i := 1) rfl | exact boxc hq.out (i := 2) rfl | exact boxc hq.out (i := 3) rfl); done)); clear hK K'; clear hHeld; have hHeld := hHeld2; clear hHeld2; ((try simp only [Act.put, List.setIfInBounds_toArray]); (try dsimp only [List.set_cons_zero, List.set_cons_succ]))); (refine wpAnyH_ready (rs := [4]) (by kernel_rfl) (by simp) ?_; refine AllReadyH.cons (o := _) rfl (fun K' hK => ?_) AllReadyH.nil; (refine step_append_sl_hpk rfl _ _ rfl Try.underlying71 slix.eInfo rfl (by decide) (by decide) hq.out 0 rfl rfl rfl (hsA.out _ (hq.out.row (i := 4) rfl) _) hlA.out (ixCells_one _) hbA.out hk4.out hz4.out ?_; intro v5 w5 h5 hv5; replace hq := Lib.hid h5; clear h5; obtain ⟨ad5, cp5, rfl⟩ := hv5); (try dsimp only); refine hK.out _ _ ?_ (fun hHeld2 => ?_); (focus ((try dsimp only); (first | exact boxc hq.out.drew (i := 1) rfl | exact boxc hq.out (i := 1) rfl | exact boxc hq.out (i := 2) rfl | exact boxc hq.out (i := 3) rfl); done)); clear hK K'; clear hHeld; have hHeld := hHeld2; clear hHeld2; ((try simp only [Act.put, List.setIfInBounds_toArray]); (try dsimp only [List.set_cons_zero, List.set_cons_succ]))); (refine wpAnyH_ready (rs := [7]) (by kernel_rfl) (by simp) ?_; refine AllReadyH.cons (o := _) rfl (fun K' hK => ?_) AllReadyH.nil; (refine step_append_sl_hpk rfl _ _ rfl Try.underlying71 slix.eInfo rfl (by decide) (by decide) hq.out 0 rfl rfl rfl (hq.out.sl (i := 1) rfl hX0.out) hXl.out hX1.out hbX.out hk7.out hz7.out ?_; intro v6 w6 h6 hv6; replace hq := Lib.hid h6; clear h6; obtain ⟨ad6, cp6, rfl⟩ := hv6); (try dsimp only); refine hK.out _ _ ?_ (fun hHeld2 => ?_); (focus ((try dsimp only); (first | exact boxc hq.out.drew (i := 1) rfl | exact boxc hq.out (i := 1) rfl | exact boxc hq.out (i := 2) rfl | exact boxc hq.out (i := 3) rfl); done)); clear hK K'; clear hHeld; have hHeld := hHeld2; clear hHeld2; ((try simp only [Act.put, List.setIfInBounds_toArray]); (try dsimp only [List.set_cons_zero, List.set_cons_succ]))); (refine wpAnyH_ready (rs := [11]) (by kernel_rfl) (by simp) ?_; refine AllReadyH.cons (o := _) rfl (fun K' hK => ?_) AllReadyH.nil; (refine step_append_sl_hpk rfl _ _ rfl Try.underlying71 slix.eInfo rfl (by decide) (by decide) hq.out 0 rfl rfl rfl (hsB.out _ (hq.out.row (i := 4) rfl) _) hlB.out (ixCells_one _) hbB.out hk11.out hz11.out ?_; intro v7 w7 h7 hv7; replace hq := Lib.hid h7; clear h7; obtain ⟨ad7, cp7, rfl⟩ := hv7); (try dsimp only); refine hK.out _ _ ?_ (fun hHeld2 => ?_); (focus ((try dsimp only); (first | exact boxc hq.out.drew (i := 1) rfl | exact boxc hq.out (i := 1) rfl | exact boxc hq.out (i := 2) rfl | exact boxc hq.out (i := 3) rfl); done)); clear hK K'; clear hHeld; have hHeld := hHeld2; clear hHeld2; ((try simp only [Act.put, List.setIfInBounds_toArray]); (try dsimp only [List.set_cons_zero, List.set_cons_succ]))); (refine take_t (i := 12) (d := 6) (oi := _) (v := ?_) rfl rfl (by kernel_rfl) (by kernel_rfl) (by kernel_rfl) (by rfl) ?_ (by assumption) ?_; rotate_left; (focus (intro w0 hSw; (try dsimp only at hSw); go_simp; (try with_reducible rfl); done)); ((try simp only [Act.put, List.setIfInBounds_toArray]); (try dsimp only [List.set_cons_zero, List.set_cons_succ])))
                          refine wpAnyH_done (by kernel_rfl) ?_ _; refine NoPanic.normal ?_
                          go_wp2
                          go_meet
                          exact ⟨A, ad3, cp3, ad7, cp7, rfl, rfl, hAS.out, hAm.out, hAl.out, (((hq.out.drop 5).drop 4).drop 1).perm (List.Perm.cons _ (List.Perm.swap _ _ _))⟩
          obtain ⟨M, ad3, cp3, ad4, cp4, rfl, rfl, hMS, hMm, hMl, hq1⟩ := hcut
          replace hq := Lib.hid hq1 --tail
          clear hq1 hdrop hadd hDe hDS hDm hDl hD hp1 hp2 hp3 hfew d3x d3 hs hm
          have hM2 := Lib.hid (show M.length ≤ 140737488355328 by omega)
          have hsm : ∀ W, Hp w [] [.row 73 3 (.slice ad4 M.length cp4) M.length (ixCells M), .box q #[.int .i64 yl, .int .i64 yk, .int .i64 yd] 73, .row 73 3 (.slice ad3 M.length cp3) M.length (ixCells M)] W → Calls Try.prog 38 #[.slice ad3 M.length cp3, .slice ad4 M.length cp4] W fun e w' => e = .returned (.bool true) ∧ Below W.heap.size W w' := fun W h => hsame.out W _ _ M (h.sl (i := 2) rfl hM2.out) (h.sl (i := 0) rfl hM2.out) hMl
          have hst : ∀ W, Hp w [] [.row 73 3 (.slice ad4 M.length cp4) M.length (ixCells M), .box q #[.int .i64 yl, .int .i64 yk, .int .i64 yd] 73, .row 73 3 (.slice ad3 M.length cp3) M.length (ixCells M)] W → Hp w [] [.row 73 3 (.slice ad4 M.length cp4) M.length (ixCells M), .box q #[.int .i64 yl, .int .i64 yk, .int .i64 yd] 73, .row 73 3 (.slice ad3 M.length cp3) M.length (ixCells M)] W ∧ W.cell? ⟨q, 0, none⟩ = some (.int .i64 yl) ∧ W.cell? ⟨q, 1, none⟩ = some (.int .i64 yk) ∧ W.cell? ⟨q, 2, none⟩ = some (.int .i64 yd) := fun W h => ⟨h, by simpa using h.cell (i := 1) rfl 0, by simpa using h.cell (i := 1) rfl 1, by simpa using h.cell (i := 1) rfl 2⟩
          obtain ⟨mb, hmb⟩ : ∃ mb, mb = mayB x := ⟨_, rfl⟩
          rw [← hmb] at hmayx hlmayx
          have hmm : (mb != mb) = false := by simp
          replace hsm := Lib.hid hsm; replace hst := Lib.hid hst; replace hMS := Lib.hid hMS; replace hMm := Lib.hid hMm
          clear hsame hmb
          have x0 := (hst.out _ hq.out).2.1; have x1 := (hst.out _ hq.out).2.2.1; have x2 := (hst.out _ hq.out).2.2.2
          go_upto_region 30 with fail
          go_region_held3 (fun W => Hp w [] [.row 73 3 (.slice ad4 M.length cp4) M.length (ixCells M), .box q #[.int .i64 yl, .int .i64 yk, .int .i64 yd] 73, .row 73 3 (.slice ad3 M.length cp3) M.length (ixCells M)] W ∧ W.cell? ⟨q, 0, none⟩ = some (.int .i64 yl) ∧ W.cell? ⟨q, 1, none⟩ = some (.int .i64 yk) ∧ W.cell? ⟨q, 2, none⟩ = some (.int .i64 yd))
            (first | exact hst.out _ hq.out.drew | (go_split_ands; exact hst.out _ (Hp.below (by assumption) (by assumption))))
            (first
              | (go_at_call 37; (with_reducible refine (hmayx.out _).mono ?_); rintro e w1 ⟨rfl, hb⟩)
              | (go_at_call 36; (with_reducible refine (hlmayx.out _).mono ?_); rintro e w1 ⟨rfl, hb⟩)
              | (go_at_call 38; go_split_ands; (with_reducible refine (hsm.out _ (by assumption)).mono ?_); rintro e w1 ⟨rfl, hb⟩))
          all_goals
            go_split_ands
            clear hq
            go_wp2
            go_roundw
            case rel => exact ⟨i + 1, M, ad3, cp3, ad4, cp4, by go_num, by omega, rfl, rfl, hMS.out, hMm.out, hMl, .inr (by omega), Hp.drop (rs := [.row 73 3 (.slice ad4 M.length cp4) M.length (ixCells M), .box q #[.int .i64 yl, .int .i64 yk, .int .i64 yd] 73, .row 73 3 (.slice ad3 M.length cp3) M.length (ixCells M)]) (by assumption) 1⟩
            case measure => simp [intOf]; omega
    · as_aux_lemma =>
      obtain rfl : i = K := by omega
      have hgl : decide ((i : Int) < (len0 : Int)) = false ∨ ((i : Int) < (len0 : Int) ∧ decide ((i : Int) < 60) = false) := by
        by_cases h5 : (i : Int) < (len0 : Int)
        · right; exact ⟨h5, by simp; omega⟩
        · left; simpa using h5
      obtain ⟨n, hln⟩ : ∃ n, n = L.length := ⟨_, rfl⟩
      have hn32 : n ≤ 32 := by omega
      obtain ⟨J, hJ⟩ : ∃ J, J = min len1 20 := ⟨_, rfl⟩
      obtain ⟨Ls, hLs, hLc⟩ := argInt hlab.out J (by omega) (by omega)
      have hwx : ∃ wx, wx = wr := ⟨_, rfl⟩
      obtain ⟨wx0, hwx0⟩ := hwx
      replace hs := Lib.hid hs; replace hm := Lib.hid hm; replace hp := Lib.hid hp; replace hL0 := Lib.hid hL0; replace hln := Lib.hid hln; replace hJ := Lib.hid hJ; replace hLs := Lib.hid hLs; replace hLc := Lib.hid hLc
      rw [← hln.out] at hp ⊢
      go_upto_region 5 with fail
      go_cut [31] from 24 to 31 (fun s31 wy => s31 = .bool false ∧ wy = wx0)
      case first =>
        rcases hgl with g1 | ⟨g1, g2⟩
        · have g1' : decide (i < len0) = false := by simpa using g1
          go_wp2
          go_meet
          exact ⟨rfl, hwx0.symm⟩
        · go_wp2
          go_meet
          exact ⟨rfl, hwx0.symm⟩
      obtain ⟨rfl, rfl⟩ := hcut
      subst hwx0
      replace hp := Lib.hid (hp.out.rowLit #[] 73 3 0 (by decide) rfl)
      go_wp2
      go_loopw [15, 16] (fun s15 s16 wz => ∃ (j : Nat) (ad3 : Option Addr) (cp3 : Nat), s16 = .int .i64 (j : Int) ∧ j ≤ n ∧ s15 = .slice ad3 (ofL (L.take j) Ls).length cp3 ∧ Hp w [] [.row 73 3 (.slice ad3 (ofL (L.take j) Ls).length cp3) (ofL (L.take j) Ls).length (ixCells (ofL (L.take j) Ls)), .row 73 3 (.slice ad2 n cp2) n (ixCells L), .row 73 3 (.slice ad n cp) n (ixCells L)] wz) (fun _ s16 _ => n - (intOf s16).toNat)
      case atStart => exact ⟨0, _, _, rfl, by omega, rfl, hp.out⟩
      case round =>
        clear hp
        obtain ⟨j, ad3, cp3, rfl, hj, rfl, hq⟩ := hrel
        replace hq := Lib.hid hq
        by_cases hjn : j < n
        · obtain ⟨y, hy⟩ : ∃ y, L[j]? = some y := ⟨_, List.getElem?_eq_getElem (by have := hln.out; omega)⟩
          have hym := List.mem_of_getElem? hy
          have hfd := found_at L hs.out y hym
          have hr := hq.out.row (i := 1) rfl
          rw [hln.out] at hr
          obtain ⟨g, hg, _, _, _⟩ := rowAt' hr hy
          subst hg
          clear hr
          have hcl : ∀ W : World, W.ownsRow 0 73 3 (.slice (some ⟨g, 0, none⟩) n cp2) n (ixCells L) → W.cell? ⟨g, j * 3, none⟩ = some (.int .i64 y.l) ∧ W.cell? ⟨g, j * 3 + 1, none⟩ = some (.int .i64 y.k) ∧ W.cell? ⟨g, j * 3 + 2, none⟩ = some (.int .i64 y.d) := fun W h => by
            rw [hln.out] at h
            obtain ⟨g', hg', r⟩ := rowAt' h hy
            injection hg' with hg'; injection hg' with h1
            subst h1; exact r
          have hfind : ∀ W, Sl W (.slice ad n cp) n (ixCells L) → Calls Try.prog 39 #[.slice ad n cp, .int .i64 y.l, .int .i64 y.k] W fun e w' => e = .returned (.int .i64 y.d) ∧ Below W.heap.size W w' := fun W h => by
            have hnl : n = L.length := hln.out
            subst hnl
            have := find_any (.slice ad L.length cp) L y.l y.k W h (by omega)
            rw [hfd] at this; exact this
          have hof : ofL (L.take (j + 1)) Ls = ofL (L.take j) Ls ++ (if decide (y.l ∈ Ls) then [y] else []) := filter_snoc (fun y : Ix => decide (y.l ∈ Ls)) L j y hy
          have hMl : (ofL (L.take j) Ls).length < 100000000 := Nat.lt_of_le_of_lt (List.length_filter_le _ _) (by rw [List.length_take]; omega)
          obtain ⟨M, hM⟩ : ∃ M, M = ofL (L.take j) Ls := ⟨_, rfl⟩
          rw [← hM] at hq hof hMl ⊢
          obtain ⟨yl, yk, yd⟩ := y
          simp only at hcl hfind hof
          have hsn := ixCells_snoc M ⟨yl, yk, yd⟩
          have hn47 := Lib.hid (show n ≤ 140737488355328 by omega)
          have p1 : (0 : Int) ≤ (j : Int) := by omega
          have p2 : (j : Int) < (n : Int) := by omega
          have hbelL := hq.out.bel
          replace hcl := Lib.hid hcl; replace hfind := Lib.hid hfind; replace hof := Lib.hid hof; replace hMl := Lib.hid hMl; replace hM := Lib.hid hM; replace hsn := Lib.hid hsn
          clear hy hym hfd hbelL
          go_wp2
          go_loopw [17, 18] (fun s17 s18 wy => ∃ k : Nat, s18 = .int .i64 (k : Int) ∧ k ≤ J ∧ s17 = .bool (decide (yl ∈ Ls.take k)) ∧ Hp w [] [.row 73 3 (.slice ad3 M.length cp3) M.length (ixCells M), .row 73 3 (.slice (some ⟨g, 0, none⟩) n cp2) n (ixCells L), .row 73 3 (.slice ad n cp) n (ixCells L)] wy) (fun _ s18 _ => J - (intOf s18).toNat)
          case atStart => exact ⟨0, rfl, by omega, by simp, hq.out⟩
          case round =>
            clear hq
            obtain ⟨k, rfl, hk, rfl, hq⟩ := hrel
            have hq0 := hq
            replace hq := Lib.hid hq
            by_cases hkj : k < J
            · obtain ⟨z, hz⟩ : ∃ z, Ls[k]? = some z := ⟨_, List.getElem?_eq_getElem (by have := hLs.out; omega)⟩
              obtain ⟨a', c', he, _, hh⟩ := hLc.out _ hq.out.bel cap1
              injection he with he1 he2 he3
              obtain ⟨b, o, ha, hrow⟩ := hh.resolve_left (by omega)
              subst he1 ha
              have z0 := hrow.2 k (.int .i64 z) (by unfold iC; rw [List.getElem?_map, hz]; rfl)
              obtain ⟨y0, y1, y2⟩ := hcl.out _ (hq.out.row (i := 1) rfl)
              have e1 : (0 : Int) ≤ (k : Int) := by omega
              have e2 : (k : Int) < (len1 : Int) := by have := hJ.out; omega
              have e3 : (k : Int) < 20 := by have := hJ.out; omega
              have hnx : decide (yl ∈ Ls.take (k + 1)) = (decide (yl ∈ Ls.take k) || (z == yl)) := by
                rw [List.take_add_one, hz, Bool.eq_iff_iff]
                simp only [Option.toList_some, List.mem_append, List.mem_singleton, Bool.or_eq_true, decide_eq_true_eq, beq_iff_eq]
                exact ⟨fun h => h.imp id Eq.symm, fun h => h.imp id Eq.symm⟩
              obtain ⟨qv, hqv⟩ : ∃ qv, qv = decide (yl ∈ Ls.take k) := ⟨_, rfl⟩
              obtain ⟨qz, hqz⟩ : ∃ qz, (z == yl) = qz := ⟨_, rfl⟩
              rw [← hqv] at hnx ⊢
              rw [hqz] at hnx
              replace hnx := Lib.hid hnx
              clear hqv hrow hh hz hq0
              cases qv with
              | true =>
                go_upto_region 40 with fail
                go_quiet (fail)
                go_wp2
                go_roundw
                case rel => exact ⟨k + 1, by go_num, by omega, by rw [hnx.out]; rfl, hq.out.drewN _⟩
                case measure => simp [intOf]; omega
              | false =>
                go_upto_region 40 with fail
                go_quiet (fail)
                go_wp2
                go_roundw
                case rel => exact ⟨k + 1, by go_num, by omega, by rw [hnx.out]; rfl, hq.out.drewN _⟩
                case measure => simp [intOf]; omega
            · obtain rfl : k = J := by omega
              have hgk : decide ((k : Int) < (len1 : Int)) = false ∨ ((k : Int) < (len1 : Int) ∧ decide ((k : Int) < 20) = false) := by
                have := hJ.out
                by_cases h5 : (k : Int) < (len1 : Int)
                · right; exact ⟨h5, by simp; omega⟩
                · left; simpa using h5
              rw [List.take_of_length_le (by rw [hLs.out]; exact Nat.le_refl _)]
              obtain ⟨wx1, hwx1⟩ : ∃ x, x = wr := ⟨_, rfl⟩
              go_upto_region 38 with fail
              go_cut [190] from 183 to 190 (fun s190 wy' => s190 = .bool false ∧ wy' = wx1)
              case first =>
                rcases hgk with g1 | ⟨g1, g2⟩
                · have g1' : decide (k < len1) = false := by simpa using g1
                  go_wp2
                  go_meet
                  exact ⟨rfl, hwx1.symm⟩
                · go_wp2
                  go_meet
                  exact ⟨rfl, hwx1.symm⟩
              obtain ⟨rfl, rfl⟩ := hcut
              subst hwx1
              clear hq0
              obtain ⟨y0, y1, y2⟩ := hcl.out _ (hq.out.row (i := 1) rfl)
              cases hmem : decide (yl ∈ Ls) with
              | false =>
                have hof2 := hof.out
                rw [hmem] at hof2
                simp only [Bool.false_eq_true, if_false, List.append_nil] at hof2
                replace hof2 := Lib.hid hof2
                go_upto_region 43 with fail
                refine wp_region_noPanic ?_; refine wp_region_held_drew (S := (fun W' => W'.cell? ⟨g, j * 3, none⟩ = some (.int .i64 yl) ∧ W'.cell? ⟨g, j * 3 + 1, none⟩ = some (.int .i64 yk) ∧ W'.cell? ⟨g, j * 3 + 2, none⟩ = some (.int .i64 yd))) (by kernel_rfl) ?_ (fun hHeld => ?_); (focus ((try dsimp only); (first | exact hcl.out _ (hq.out.drew.row (i := 1) rfl) | exact hcl.out _ (hq.out.row (i := 1) rfl)); done)); (refine take_t (i := 0) (d := 214) (oi := _) (v := ?_) rfl rfl (by kernel_rfl) (by kernel_rfl) (by kernel_rfl) (by rfl) ?_ (by assumption) ?_; rotate_left; (focus (intro w0 hSw; (try dsimp only at hSw); go_simp; (try with_reducible rfl); done)); ((try simp only [Act.put, List.setIfInBounds_toArray]); (try dsimp only [List.set_cons_zero, List.set_cons_succ]))); (refine take_t (i := 1) (d := 215) (oi := _) (v := ?_) rfl rfl (by kernel_rfl) (by kernel_rfl) (by kernel_rfl) (by rfl) ?_ (by assumption) ?_; rotate_left; (focus (intro w0 hSw; (try dsimp only at hSw); go_simp; (try with_reducible rfl); done)); ((try simp only [Act.put, List.setIfInBounds_toArray]); (try dsimp only [List.set_cons_zero, List.set_cons_succ]))); (refine take_t (i := 2) (d := 216) (oi := _) (v := ?_) rfl rfl (by kernel_rfl) (by kernel_rfl) (by kernel_rfl) (by rfl) ?_ (by assumption) ?_; rotate_left; (focus (intro w0 hSw; (try dsimp only at hSw); go_simp; (try with_reducible rfl); done)); ((try simp only [Act.put, List.setIfInBounds_toArray]); (try dsimp only [List.set_cons_zero, List.set_cons_succ]))); (refine take_t (i := 3) (d := 217) (oi := _) (v := ?_) rfl rfl (by kernel_rfl) (by kernel_rfl) (by kernel_rfl) (by rfl) ?_ (by assumption) ?_; rotate_left; (focus (intro w0 hSw; (try dsimp only at hSw); go_simp; (try with_reducible rfl); done)); ((try simp only [Act.put, List.setIfInBounds_toArray]); (try dsimp only [List.set_cons_zero, List.set_cons_succ]))); (refine take_t (i := 4) (d := 218) (oi := _) (v := ?_) rfl rfl (by kernel_rfl) (by kernel_rfl) (by kernel_rfl) (by rfl) ?_ (by assumption) ?_; rotate_left; (focus (intro w0 hSw; (try dsimp only at hSw); go_simp; (try with_reducible rfl); done)); ((try simp only [Act.put, List.setIfInBounds_toArray]); (try dsimp only [List.set_cons_zero, List.set_cons_succ]))); (refine take_t (i := 5) (d := 219) (oi := _) (v := ?_) rfl rfl (by kernel_rfl) (by kernel_rfl) (by kernel_rfl) (by rfl) ?_ (by assumption) ?_; rotate_left; (focus (intro w0 hSw; (try dsimp only at hSw); go_simp; (try with_reducible rfl); done)); ((try simp only [Act.put, List.setIfInBounds_toArray]); (try dsimp only [List.set_cons_zero, List.set_cons_succ]))); (refine take_t (i := 6) (d := 220) (oi := _) (v := ?_) rfl rfl (by kernel_rfl) (by kernel_rfl) (by kernel_rfl) (by rfl) ?_ (by assumption) ?_; rotate_left; (focus (intro w0 hSw; (try dsimp only at hSw); go_simp; (try with_reducible rfl); done)); ((try simp only [Act.put, List.setIfInBounds_toArray]); (try dsimp only [List.set_cons_zero, List.set_cons_succ]))); (refine take_t (i := 7) (d := 221) (oi := _) (v := ?_) rfl rfl (by kernel_rfl) (by kernel_rfl) (by kernel_rfl) (by rfl) ?_ (by assumption) ?_; rotate_left; (focus (intro w0 hSw; (try dsimp only at hSw); go_simp; (try with_reducible rfl); done)); ((try simp only [Act.put, List.setIfInBounds_toArray]); (try dsimp only [List.set_cons_zero, List.set_cons_succ]))); (refine take_t (i := 8) (d := 222) (oi := _) (v := ?_) rfl rfl (by kernel_rfl) (by kernel_rfl) (by kernel_rfl) (by rfl) ?_ (by assumption) ?_; rotate_left; (focus (intro w0 hSw; (try dsimp only at hSw); go_simp; (try with_reducible rfl); done)); ((try simp only [Act.put, List.setIfInBounds_toArray]); (try dsimp only [List.set_cons_zero, List.set_cons_succ]))); (refine take_t (i := 9) (d := 223) (oi := _) (v := ?_) rfl rfl (by kernel_rfl) (by kernel_rfl) (by kernel_rfl) (by rfl) ?_ (by assumption) ?_; rotate_left; (focus (intro w0 hSw; (try dsimp only at hSw); go_simp; (try with_reducible rfl); done)); ((try simp only [Act.put, List.setIfInBounds_toArray]); (try dsimp only [List.set_cons_zero, List.set_cons_succ]))); (refine take_t (i := 10) (d := 224) (oi := _) (v := ?_) rfl rfl (by kernel_rfl) (by kernel_rfl) (by kernel_rfl) (by rfl) ?_ (by assumption) ?_; rotate_left; (focus (intro w0 hSw; (try dsimp only at hSw); go_simp; (try with_reducible rfl); done)); ((try simp only [Act.put, List.setIfInBounds_toArray]); (try dsimp only [List.set_cons_zero, List.set_cons_succ]))); (refine take_t (i := 12) (d := 226) (oi := _) (v := ?_) rfl rfl (by kernel_rfl) (by kernel_rfl) (by kernel_rfl) (by rfl) ?_ (by assumption) ?_; rotate_left; (focus (intro w0 hSw; (try dsimp only at hSw); go_simp; (try with_reducible rfl); done)); ((try simp only [Act.put, List.setIfInBounds_toArray]); (try dsimp only [List.set_cons_zero, List.set_cons_succ]))); (refine take_t (i := 13) (d := 227) (oi := _) (v := ?_) rfl rfl (by kernel_rfl) (by kernel_rfl) (by kernel_rfl) (by rfl) ?_ (by assumption) ?_; rotate_left; (focus (intro w0 hSw; (try dsimp only at hSw); go_simp; (try with_reducible rfl); done)); ((try simp only [Act.put, List.setIfInBounds_toArray]); (try dsimp only [List.set_cons_zero, List.set_cons_succ]))); (refine take_t (i := 14) (d := 228) (oi := _) (v := ?_) rfl rfl (by kernel_rfl) (by kernel_rfl) (by kernel_rfl) (by rfl) ?_ (by assumption) ?_; rotate_left; (focus (intro w0 hSw; (try dsimp only at hSw); go_simp; (try with_reducible rfl); done)); ((try simp only [Act.put, List.setIfInBounds_toArray]); (try dsimp only [List.set_cons_zero, List.set_cons_succ]))); (refine take_t (i := 15) (d := 229) (oi := _) (v := ?_) rfl rfl (by kernel_rfl) (by kernel_rfl) (by kernel_rfl) (by rfl) ?_ (by assumption) ?_; rotate_left; (focus (intro w0 hSw; (try dsimp only at hSw); go_simp; (try with_reducible rfl); done)); ((try simp only [Act.put, List.setIfInBounds_toArray]); (try dsimp only [List.set_cons_zero, List.set_cons_succ]))); (refine take_t (i := 16) (d := 230) (oi := _) (v := ?_) rfl rfl (by kernel_rfl) (by kernel_rfl) (by kernel_rfl) (by rfl) ?_ (by assumption) ?_; rotate_left; (focus (intro w0 hSw; (try dsimp only at hSw); go_simp; (try with_reducible rfl); done)); ((try simp only [Act.put, List.setIfInBounds_toArray]); (try dsimp only [List.set_cons_zero, List.set_cons_succ]))); (refine wpAnyH_ready (rs := [11]) (by kernel_rfl) (by simp) ?_; refine AllReadyH.cons (o := _) rfl (fun K' hK => ?_) AllReadyH.nil; go_simp; (go_at_call 39; (with_reducible refine (hfind.out _ (hq.out.drew.sl (i := 2) rfl hn47.out)).mono ?_); rintro e w4 ⟨rfl, b4⟩; replace hq := Lib.hid (hq.out.drew.below b4)); (try dsimp only); refine hK.out _ _ ?_ (fun hHeld2 => ?_); (focus ((try dsimp only); (first | exact hcl.out _ (hq.out.drew.row (i := 1) rfl) | exact hcl.out _ (hq.out.row (i := 1) rfl)); done)); clear hK K'; clear hHeld; have hHeld := hHeld2; clear hHeld2; ((try simp only [Act.put, List.setIfInBounds_toArray]); (try dsimp only [List.set_cons_zero, List.set_cons_succ]))); (refine take_t (i := 17) (d := 231) (oi := _) (v := ?_) rfl rfl (by kernel_rfl) (by kernel_rfl) (by kernel_rfl) (by rfl) ?_ (by assumption) ?_; rotate_left; (focus (intro w0 hSw; (try dsimp only at hSw); go_simp; (try with_reducible rfl); done)); ((try simp only [Act.put, List.setIfInBounds_toArray]); (try dsimp only [List.set_cons_zero, List.set_cons_succ]))); refine wpAnyH_done (by kernel_rfl) ?_ _; refine NoPanic.normal ?_
                go_wp2
                go_roundw
                case rel => exact ⟨j + 1, ad3, cp3, by go_num, by omega, by rw [hof2.out], by rw [hof2.out]; exact hq.out⟩
                case measure => simp [intOf]; omega
              | true =>
                have hof2 := hof.out
                rw [hmem] at hof2
                simp only [if_true] at hof2
                replace hof2 := Lib.hid hof2
                go_upto_region 43 with (at_builtin; go_loud (refine wpList_append_hp rfl _ _ rfl Try.underlying71 slix.eInfo rfl (by decide) (by decide) (hq.out.alloc_ (.cells #[.int .i64 yl, .int .i64 yk, .int .i64 yd] 73)) 0 rfl rfl _ _ [.int .i64 yl, .int .i64 yk, .int .i64 yd] rfl rfl (block_cells (heap_alloc_new _ _)) (by intro u hu; simp at hu; rcases hu with rfl | rfl | rfl <;> rfl) hMl.out ?_; intro v5 w5 hp5 hv5; replace hq := Lib.hid hp5; clear hp5; obtain ⟨b5, cp5, rfl⟩ := hv5))
                refine wp_region_noPanic ?_; refine wp_region_held_drew (S := (fun W' => W'.cell? ⟨g, j * 3, none⟩ = some (.int .i64 yl) ∧ W'.cell? ⟨g, j * 3 + 1, none⟩ = some (.int .i64 yk) ∧ W'.cell? ⟨g, j * 3 + 2, none⟩ = some (.int .i64 yd))) (by kernel_rfl) ?_ (fun hHeld => ?_); (focus ((try dsimp only); (first | exact hcl.out _ (hq.out.drew.row (i := 1) rfl) | exact hcl.out _ (hq.out.row (i := 1) rfl)); done)); (refine take_t (i := 0) (d := 214) (oi := _) (v := ?_) rfl rfl (by kernel_rfl) (by kernel_rfl) (by kernel_rfl) (by rfl) ?_ (by assumption) ?_; rotate_left; (focus (intro w0 hSw; (try dsimp only at hSw); go_simp; (try with_reducible rfl); done)); ((try simp only [Act.put, List.setIfInBounds_toArray]); (try dsimp only [List.set_cons_zero, List.set_cons_succ]))); (refine take_t (i := 1) (d := 215) (oi := _) (v := ?_) rfl rfl (by kernel_rfl) (by kernel_rfl) (by kernel_rfl) (by rfl) ?_ (by assumption) ?_; rotate_left; (focus (intro w0 hSw; (try dsimp only at hSw); go_simp; (try with_reducible rfl); done)); ((try simp only [Act.put, List.setIfInBounds_toArray]); (try dsimp only [List.set_cons_zero, List.set_cons_succ]))); (refine take_t (i := 2) (d := 216) (oi := _) (v := ?_) rfl rfl (by kernel_rfl) (by kernel_rfl) (by kernel_rfl) (by rfl) ?_ (by assumption) ?_; rotate_left; (focus (intro w0 hSw; (try dsimp only at hSw); go_simp; (try with_reducible rfl); done)); ((try simp only [Act.put, List.setIfInBounds_toArray]); (try dsimp only [List.set_cons_zero, List.set_cons_succ]))); (refine take_t (i := 3) (d := 217) (oi := _) (v := ?_) rfl rfl (by kernel_rfl) (by kernel_rfl) (by kernel_rfl) (by rfl) ?_ (by assumption) ?_; rotate_left; (focus (intro w0 hSw; (try dsimp only at hSw); go_simp; (try with_reducible rfl); done)); ((try simp only [Act.put, List.setIfInBounds_toArray]); (try dsimp only [List.set_cons_zero, List.set_cons_succ]))); (refine take_t (i := 4) (d := 218) (oi := _) (v := ?_) rfl rfl (by kernel_rfl) (by kernel_rfl) (by kernel_rfl) (by rfl) ?_ (by assumption) ?_; rotate_left; (focus (intro w0 hSw; (try dsimp only at hSw); go_simp; (try with_reducible rfl); done)); ((try simp only [Act.put, List.setIfInBounds_toArray]); (try dsimp only [List.set_cons_zero, List.set_cons_succ]))); (refine take_t (i := 5) (d := 219) (oi := _) (v := ?_) rfl rfl (by kernel_rfl) (by kernel_rfl) (by kernel_rfl) (by rfl) ?_ (by assumption) ?_; rotate_left; (focus (intro w0 hSw; (try dsimp only at hSw); go_simp; (try with_reducible rfl); done)); ((try simp only [Act.put, List.setIfInBounds_toArray]); (try dsimp only [List.set_cons_zero, List.set_cons_succ]))); (refine take_t (i := 6) (d := 220) (oi := _) (v := ?_) rfl rfl (by kernel_rfl) (by kernel_rfl) (by kernel_rfl) (by rfl) ?_ (by assumption) ?_; rotate_left; (focus (intro w0 hSw; (try dsimp only at hSw); go_simp; (try with_reducible rfl); done)); ((try simp only [Act.put, List.setIfInBounds_toArray]); (try dsimp only [List.set_cons_zero, List.set_cons_succ]))); (refine take_t (i := 7) (d := 221) (oi := _) (v := ?_) rfl rfl (by kernel_rfl) (by kernel_rfl) (by kernel_rfl) (by rfl) ?_ (by assumption) ?_; rotate_left; (focus (intro w0 hSw; (try dsimp only at hSw); go_simp; (try with_reducible rfl); done)); ((try simp only [Act.put, List.setIfInBounds_toArray]); (try dsimp only [List.set_cons_zero, List.set_cons_succ]))); (refine take_t (i := 8) (d := 222) (oi := _) (v := ?_) rfl rfl (by kernel_rfl) (by kernel_rfl) (by kernel_rfl) (by rfl) ?_ (by assumption) ?_; rotate_left; (focus (intro w0 hSw; (try dsimp only at hSw); go_simp; (try with_reducible rfl); done)); ((try simp only [Act.put, List.setIfInBounds_toArray]); (try dsimp only [List.set_cons_zero, List.set_cons_succ]))); (refine take_t (i := 9) (d := 223) (oi := _) (v := ?_) rfl rfl (by kernel_rfl) (by kernel_rfl) (by kernel_rfl) (by rfl) ?_ (by assumption) ?_; rotate_left; (focus (intro w0 hSw; (try dsimp only at hSw); go_simp; (try with_reducible rfl); done)); ((try simp only [Act.put, List.setIfInBounds_toArray]); (try dsimp only [List.set_cons_zero, List.set_cons_succ]))); (refine take_t (i := 10) (d := 224) (oi := _) (v := ?_) rfl rfl (by kernel_rfl) (by kernel_rfl) (by kernel_rfl) (by rfl) ?_ (by assumption) ?_; rotate_left; (focus (intro w0 hSw; (try dsimp only at hSw); go_simp; (try with_reducible rfl); done)); ((try simp only [Act.put, List.setIfInBounds_toArray]); (try dsimp only [List.set_cons_zero, List.set_cons_succ]))); (refine take_t (i := 12) (d := 226) (oi := _) (v := ?_) rfl rfl (by kernel_rfl) (by kernel_rfl) (by kernel_rfl) (by rfl) ?_ (by assumption) ?_; rotate_left; (focus (intro w0 hSw; (try dsimp only at hSw); go_simp; (try with_reducible rfl); done)); ((try simp only [Act.put, List.setIfInBounds_toArray]); (try dsimp only [List.set_cons_zero, List.set_cons_succ]))); (refine take_t (i := 13) (d := 227) (oi := _) (v := ?_) rfl rfl (by kernel_rfl) (by kernel_rfl) (by kernel_rfl) (by rfl) ?_ (by assumption) ?_; rotate_left; (focus (intro w0 hSw; (try dsimp only at hSw); go_simp; (try with_reducible rfl); done)); ((try simp only [Act.put, List.setIfInBounds_toArray]); (try dsimp only [List.set_cons_zero, List.set_cons_succ]))); (refine take_t (i := 14) (d := 228) (oi := _) (v := ?_) rfl rfl (by kernel_rfl) (by kernel_rfl) (by kernel_rfl) (by rfl) ?_ (by assumption) ?_; rotate_left; (focus (intro w0 hSw; (try dsimp only at hSw); go_simp; (try with_reducible rfl); done)); ((try simp only [Act.put, List.setIfInBounds_toArray]); (try dsimp only [List.set_cons_zero, List.set_cons_succ]))); (refine take_t (i := 15) (d := 229) (oi := _) (v := ?_) rfl rfl (by kernel_rfl) (by kernel_rfl) (by kernel_rfl) (by rfl) ?_ (by assumption) ?_; rotate_left; (focus (intro w0 hSw; (try dsimp only at hSw); go_simp; (try with_reducible rfl); done)); ((try simp only [Act.put, List.setIfInBounds_toArray]); (try dsimp only [List.set_cons_zero, List.set_cons_succ]))); (refine take_t (i := 16) (d := 230) (oi := _) (v := ?_) rfl rfl (by kernel_rfl) (by kernel_rfl) (by kernel_rfl) (by rfl) ?_ (by assumption) ?_; rotate_left; (focus (intro w0 hSw; (try dsimp only at hSw); go_simp; (try with_reducible rfl); done)); ((try simp only [Act.put, List.setIfInBounds_toArray]); (try dsimp only [List.set_cons_zero, List.set_cons_succ]))); (refine wpAnyH_ready (rs := [11]) (by kernel_rfl) (by simp) ?_; refine AllReadyH.cons (o := _) rfl (fun K' hK => ?_) AllReadyH.nil; go_simp; (go_at_call 39; (with_reducible refine (hfind.out _ (hq.out.drew.sl (i := 2) rfl hn47.out)).mono ?_); rintro e w4 ⟨rfl, b4⟩; replace hq := Lib.hid (hq.out.drew.below b4)); (try dsimp only); refine hK.out _ _ ?_ (fun hHeld2 => ?_); (focus ((try dsimp only); (first | exact hcl.out _ (hq.out.drew.row (i := 1) rfl) | exact hcl.out _ (hq.out.row (i := 1) rfl)); done)); clear hK K'; clear hHeld; have hHeld := hHeld2; clear hHeld2; ((try simp only [Act.put, List.setIfInBounds_toArray]); (try dsimp only [List.set_cons_zero, List.set_cons_succ]))); (refine take_t (i := 17) (d := 231) (oi := _) (v := ?_) rfl rfl (by kernel_rfl) (by kernel_rfl) (by kernel_rfl) (by rfl) ?_ (by assumption) ?_; rotate_left; (focus (intro w0 hSw; (try dsimp only at hSw); go_simp; (try with_reducible rfl); done)); ((try simp only [Act.put, List.setIfInBounds_toArray]); (try dsimp only [List.set_cons_zero, List.set_cons_succ]))); refine wpAnyH_done (by kernel_rfl) ?_ _; refine NoPanic.normal ?_
                go_wp2
                go_roundw
                case rel => exact ⟨j + 1, _, cp5, by go_num, by omega, by rw [hof2.out, List.length_append]; rfl, by rw [hof2.out, List.length_append, hsn.out]; exact hq.out⟩
                case measure => simp [intOf]; omega
        · obtain rfl : j = n := by omega
          have htk : L.take j = L := List.take_of_length_le (by rw [hln.out]; exact Nat.le_refl _)
          rw [htk] at hq ⊢
          clear htk
          have hwf : ∀ x ∈ L, x.wf := fun z hz => by
            have := hm.out z hz
            unfold mayB nameB at this
            simp only [Bool.and_eq_true, decide_eq_true_eq] at this
            unfold Ix.wf; omega
          have hput : ∀ W, Sl W (.slice ad j cp) j (ixCells L) → Calls Try.prog 41 #[.slice ad j cp] W fun e w' => e = .returned (.string (str (putB L))) ∧ Below W.heap.size W w' := fun W h => by
            have hnl : j = L.length := hln.out
            subst hnl
            exact put_any _ L W h (by omega) hwf
          have hget : ∀ W, Calls Try.prog 40 #[.string (str (putB L))] W fun e w' => ∃ v, e = .returned (.tuple #[v, .int .i64 0]) ∧ (∃ ad cp, v = .slice ad j cp) ∧ Hp W [] [.row 73 3 v j (ixCells L)] w' := fun W => by
            have := get_any (str (putB L)) W
            rw [str_toList, get_put L hs.out hm.out hwf hL32] at this
            have hnl : j = L.length := hln.out
            subst hnl
            exact this
          obtain ⟨F, hF⟩ : ∃ F, F = ofL L Ls := ⟨_, rfl⟩
          rw [← hF] at hq ⊢
          have hFl : F.length ≤ 32 := by rw [hF]; exact Nat.le_trans (List.length_filter_le _ _) hL32
          have hofc : ∀ W, Sl W (.slice ad j cp) j (ixCells L) → Below w.heap.size w W → Calls Try.prog 42 #[.slice ad j cp, .slice a1 J cap1] W fun e w' => ∃ v', e = .returned v' ∧ RowRet W F v' w' := fun W h hb => by
            have hnl : j = L.length := hln.out
            subst hnl
            rw [hF]
            exact of_any _ _ L Ls W h (by have := hLc.out W hb cap1; rw [hLs.out]; exact this) (by omega) (by have := hLs.out; have := hJ.out; omega)
          have hsamL : ∀ W (v u : Value), Sl W v j (ixCells L) → Sl W u j (ixCells L) → Calls Try.prog 38 #[v, u] W fun e w' => e = .returned (.bool true) ∧ Below W.heap.size W w' := fun W v u h h' => by
            have hnl : j = L.length := hln.out
            subst hnl
            exact same_eq v u L W h h' (by omega)
          have hsamF : ∀ W (v u : Value), Sl W v F.length (ixCells F) → Sl W u F.length (ixCells F) → Calls Try.prog 38 #[v, u] W fun e w' => e = .returned (.bool true) ∧ Below W.heap.size W w' := fun W v u h h' => same_eq v u F W h h' (by omega)
          obtain ⟨fv, hfv⟩ : ∃ fv, fv = foundI (L.filter (same 9 9)) := ⟨_, rfl⟩
          have hfind9 : ∀ W, Sl W (.slice ad j cp) j (ixCells L) → Calls Try.prog 39 #[.slice ad j cp, .int .i64 9, .int .i64 9] W fun e w' => e = .returned (.int .i64 fv) ∧ Below W.heap.size W w' := fun W h => by
            have hnl : j = L.length := hln.out
            subst hnl
            rw [hfv]
            exact find_any _ L 9 9 W h (by omega)
          have hmin : min (len1 : Int) 20 = (J : Int) := by have := hJ.out; omega
          have m1 : (0 : Int) ≤ (J : Int) := by omega
          have m2 : (J : Int) ≤ (cap1 : Int) := by have := hJ.out; omega
          have hlast : (fv == 0) = true ∨ ((fv == 0) = false ∧ 0 < len0 ∧ (0 : Int) < (len0 : Int)) := by
            by_cases h0 : fv = 0
            · left; simpa using h0
            · right
              have hpos : 0 < len0 := by
                rcases hL0.out with h1 | h1
                · rw [h1] at hfv; exact absurd hfv h0
                · omega
              exact ⟨by simpa using h0, hpos, by omega⟩
          have hn47 := Lib.hid (show j ≤ 140737488355328 by omega)
          have hF47 := Lib.hid (show F.length ≤ 140737488355328 by omega)
          replace hput := Lib.hid hput; replace hget := Lib.hid hget; replace hofc := Lib.hid hofc; replace hsamL := Lib.hid hsamL; replace hsamF := Lib.hid hsamF; replace hfind9 := Lib.hid hfind9; replace hF := Lib.hid hF; replace hFl := Lib.hid hFl; replace hfv := Lib.hid hfv; replace hwf := Lib.hid hwf
          rcases hlast with t1 | ⟨t1, t2, t3⟩
          all_goals
            go_wp2_with (first
              | (go_at_call 41; (with_reducible refine (hput.out _ (hq.out.sl (i := 2) rfl hn47.out)).mono ?_); rintro e w4 ⟨rfl, b4⟩; replace hq := Lib.hid (hq.out.below b4); clear b4)
              | (go_at_call 40; (with_reducible refine (hget.out _).mono ?_); rintro e w5 ⟨v5, rfl, ⟨ad5, cp5, rfl⟩, h5⟩; replace hq := Lib.hid (hq.out.take h5); clear h5)
              | (go_at_call 38; (with_reducible refine (hsamL.out _ _ _ (hq.out.sl (i := 0) rfl hn47.out) (hq.out.sl (i := 2) rfl hn47.out)).mono ?_); rintro e w6 ⟨rfl, b6⟩; replace hq := Lib.hid (hq.out.below b6); clear b6)
              | (go_at_call 42; (with_reducible refine (hofc.out _ (hq.out.sl (i := 3) rfl hn47.out) hq.out.bel).mono ?_); rintro e w7 ⟨v7, rfl, ⟨ad7, cp7, rfl⟩, h7⟩; replace hq := Lib.hid (hq.out.take h7); clear h7)
              | (go_at_call 38; (with_reducible refine (hsamF.out _ _ _ (hq.out.sl (i := 0) rfl hF47.out) (hq.out.sl (i := 2) rfl hF47.out)).mono ?_); rintro e w8 ⟨rfl, b8⟩; replace hq := Lib.hid (hq.out.below b8); clear b8)
              | (go_at_call 39; (with_reducible refine (hfind9.out _ (hq.out.sl (i := 4) rfl hn47.out)).mono ?_); rintro e w9 ⟨rfl, b9⟩; replace hq := Lib.hid (hq.out.below b9); clear b9))
            go_ret
            exact ⟨rfl, hq.out.bel⟩
end Go.Proofs.Ytdgpalileloekaa.schema
