/- lodestonelaw26.made where odd is 7: a thing with few labels and with rising properties. No condition. -/
import Derived.Test.YtcdgnhhciccoeaaDoorRecW6
import Derived.Test.YtcdgnhhciccoeaaDoorValue7
import Derived.Test.YtcdgnhhciccoeaaDoorRegSeq
namespace Go.Proofs.YtcdgnhhciccoeaaDoor.recw
open Go.RowKit
attribute [local go_sem ↓] Go.wp_at_zero Go.wp_at_succ
set_option linter.unusedVariables false
set_option linter.unusedSimpArgs false
set_option maxRecDepth 100000

theorem near_any (k n : Int) (s : ByteArray) : ∃ x : Vl, (x.1 = 0 → x = vl0) ∧ ∀ w, Calls Tryd.prog 18 #[.agg #[.int .i64 k, .int .i64 n, .string s]] w fun e w' => e = .returned x.v ∧ Below w.heap.size w w' := by
  have h8 : k % 8 = 0 ∨ k % 8 = 1 ∨ k % 8 = 2 ∨ k % 8 = 3 ∨ k % 8 = 4 ∨ k % 8 = 5 ∨ k % 8 = 6 ∨ k % 8 = 7 := by omega
  have h2 : n % 2 = 0 ∨ n % 2 = 1 := by omega
  have n1 := and_mask n 1 1 (by decide) (by decide)
  have hk := and_7 k
  rcases h8 with h | h | h | h | h | h | h | h
  · exact ⟨(0, 0, ⟨#[]⟩), fun _ => rfl, fun w => value.near_0 k n s (hk.trans h) w⟩
  · rcases h2 with h3 | h3
    · exact ⟨(1, 0, ⟨#[]⟩), by simp, fun w => value.near_10 k n s (hk.trans h) (n1.trans h3) w⟩
    · exact ⟨(1, 1, ⟨#[]⟩), by simp, fun w => value.near_11 k n s (hk.trans h) (n1.trans h3) w⟩
  · exact ⟨(2, n, ⟨#[]⟩), by simp, fun w => value.near_2 k n s (hk.trans h) w⟩
  · exact ⟨(2, n, ⟨#[]⟩), by simp, fun w => value.near_3 k n s (hk.trans h) w⟩
  · by_cases h6 : s.size ≤ 60
    · exact ⟨(3, 0, s), by simp, fun w => value.near_4s k n s (hk.trans h) h6 w⟩
    · exact ⟨(3, 0, s.extract 0 60), by simp, fun w => value.near_4l k n s (hk.trans h) (by omega) w⟩
  · by_cases h6 : s.size ≤ 60
    · exact ⟨(3, 0, s), by simp, fun w => value.near_5s k n s (hk.trans h) h6 w⟩
    · exact ⟨(3, 0, s.extract 0 60), by simp, fun w => value.near_5l k n s (hk.trans h) (by omega) w⟩
  · by_cases h6 : s.size ≤ 60
    · exact ⟨(3, 0, s), by simp, fun w => value.near_6s k n s (hk.trans h) h6 w⟩
    · exact ⟨(3, 0, s.extract 0 60), by simp, fun w => value.near_6l k n s (hk.trans h) (by omega) w⟩
  · have hk0 : k ≠ 0 := by omega
    by_cases h6 : s.size ≤ 2100
    · exact ⟨(k, n, s), fun h => absurd h hk0, fun w => value.near_7s k n s (hk.trans h) h6 w⟩
    · exact ⟨(k, n, s.extract 0 2100), fun h => absurd h hk0, fun w => value.near_7l k n s (hk.trans h) (by omega) w⟩
def inC (l : List Int) : List Value := l.map fun n => .int .i64 n
theorem inC_len (l : List Int) : (inC l).length = l.length * 1 := by simp [inC]
theorem inC_one (l : List Int) : ∀ u ∈ inC l, u.oneCell' = true := fun u h => by
  obtain ⟨x, _, rfl⟩ := List.mem_map.1 h
  rfl
theorem thing6u : True := trivial
theorem box_sl' {w W : World} {X : List Nat} {rs : List Rs} {i p : Nat} {cs : Array Value} {t : TypeId} (h : Hp w X rs W) (hi : rs[i]? = some (.box p cs t)) : Sl W (.slice (some ⟨p, 0, none⟩) 1 1) 1 cs.toList :=
  ⟨_, _, rfl, by omega, Or.inr ⟨p, 0, rfl, h.lt hi, fun j v hj => by
    rw [Nat.zero_add]
    exact (h.cell hi j).trans (by simpa using hj)⟩⟩
theorem rise_last : ∀ {l : List Pr} {j : Nat} {y : Pr}, Rise l → l[j]? = some y → j + 1 = l.length → ∀ p ∈ l, p.key ≤ y.key
  | [], j, y, _, h, _ => by simp at h
  | [a], j, y, _, h, hl => by
    have : j = 0 := by simpa using hl
    subst this
    simp at h; subst h
    intro p hp; simp at hp; subst hp; exact Int.le_refl _
  | a :: b :: t, 0, y, hr, h, hl => by simp at hl
  | a :: b :: t, j + 1, y, hr, h, hl => by
    have h2 : (b :: t)[j]? = some y := by simpa using h
    have hr2 := List.pairwise_cons.1 hr
    intro p hp
    rcases List.mem_cons.1 hp with rfl | hp
    · have := hr2.1 y (List.mem_of_getElem? h2); omega
    · exact rise_last hr2.2 h2 (by simpa using hl) p hp
theorem rise_snoc {l : List Pr} {x : Pr} (h : Rise l) (hx : ∀ p ∈ l, p.key < x.key) : Rise (l ++ [x]) := by
  unfold Rise at *
  rw [List.pairwise_append]
  exact ⟨h, List.pairwise_singleton _ _, fun a ha b hb => by simp at hb; subst hb; exact hx a ha⟩
theorem prC_key {l : List Pr} {j : Nat} {y : Pr} (h : l[j]? = some y) : (prC l)[j * 4]? = some (.int .i64 y.key) := by
  have hj := (List.getElem?_eq_some_iff.1 h).1
  have : l = l.take j ++ y :: l.drop (j + 1) := by rw [← drop_cons' h, List.take_append_drop]
  rw [this, prC_append]
  rw [List.getElem?_append_right (by rw [prC_len, List.length_take]; omega), prC_len, List.length_take, Nat.min_eq_left (by omega), Nat.sub_self]
  rfl
set_option maxHeartbeats 8000000 in
theorem made_any (ed : Bool) (la : Value) (ty fm tw : Int) (pr : Value) (LL : List Int) (P : List Pr) (w : World) (hla : Sl w la LL.length (inC LL)) (hpr : Sl w pr P.length (prC P)) :
    Calls Tryd.prog 7 #[thV ed la ty fm tw pr, .int .i64 7] w fun e w' => ∃ (la' pr' : Value) (L' : List Int) (P' : List Pr) (ty' fm' tw' : Int), e = .returned (thV ed la' ty' fm' tw' pr') ∧ L'.length ≤ 10 ∧ P'.length ≤ 18 ∧ Rise P' ∧ Hp w [] [.row 3 1 la' L'.length (inC L'), .row 75 4 pr' P'.length (prC P')] w' := by
  have hp0 := ((Hp.none_ w []).alloc #[.bool ed, la, .int .i64 ty, .int .u64 fm, .int .u64 tw, pr] 26).alloc #[.bool false, .slice none 0 0, .int .i64 0, .int .u64 0, .int .u64 0, .slice none 0 0] 26
  have hsz : ∀ (u : World) o, (u.alloc o).heap.size = u.heap.size + 1 := fun u o => by simp
  rw [hsz] at hp0
  clear hsz
  replace hp0 := Lib.hid hp0
  replace hla := Lib.hid hla; replace hpr := Lib.hid hpr
  unfold thV
  go_enter Tryd.func7, Tryd.ntmps7
  go_upto_region 1 with fail
  generalize (w.alloc _).alloc _ = W1 at hp0 ⊢
  generalize hq1 : w.heap.size + 1 = q1 at hp0 ⊢
  generalize hq0 : w.heap.size = q0 at hp0 ⊢
  clear hq1 hq0
  have b0 := hp0.out.cell (i := 1) rfl 0
  have hpz := hp0.out.alloc #[.bool false, .slice none 0 0, .int .i64 0, .int .u64 0, .int .u64 0, .slice none 0 0] 26
  have y0 := hpz.free (i := 0) rfl 0; have y1 := hpz.free (i := 0) rfl 1; have y2 := hpz.free (i := 0) rfl 2; have y3 := hpz.free (i := 0) rfl 3; have y4 := hpz.free (i := 0) rfl 4; have y5 := hpz.free (i := 0) rfl 5
  simp at b0
  have hp1 := Lib.hid (((hp0.out.alloc #[.bool ed, .slice none 0 0, .int .i64 0, .int .u64 0, .int .u64 0, .slice none 0 0] 26).rowNil 75 4).rowNil 3 1)
  clear hp0 hpz
  go_upto_region 2 with fail
  clear b0 y0 y1 y2 y3 y4 y5
  generalize W1.alloc _ = W2 at hp1 ⊢
  generalize W1.heap.size = q2 at hp1 ⊢
  go_wp2
  go_loopg [6] (LL.length + 11) (fun gi s6 wr => ∃ (i : Nat) (L : List Int) (ad : Option Addr) (cp : Nat), s6 = .int .i64 (i : Int) ∧ i + gi = LL.length + 11 ∧ i ≤ 10 ∧ i ≤ LL.length ∧ L.length ≤ i ∧ Hp w [] [.row 3 1 (.slice ad L.length cp) L.length (inC L), .row 75 4 (.slice none 0 0) ([] : List Pr).length (prC ([] : List Pr)), .box q2 #[.bool ed, .slice ad L.length cp, .int .i64 0, .int .u64 0, .int .u64 0, .slice none 0 0] 26, .box q1 #[.bool false, .slice none 0 0, .int .i64 0, .int .u64 0, .int .u64 0, .slice none 0 0] 26, .box q0 #[.bool ed, la, .int .i64 ty, .int .u64 fm, .int .u64 tw, pr] 26] wr)
  case atStart => exact ⟨0, [], none, 0, rfl, by omega, by omega, by omega, by simp, hp1.out⟩
  case round =>
    clear hp1
    obtain ⟨i, L, ad, cp, rfl, hgi, hi10, hiL, hLl, hp⟩ := hrel
    obtain ⟨a, lcp, hlv, hmax, h⟩ := hla.out
    have c0 := hp.cell (i := 4) rfl 0; have c1 := hp.cell (i := 4) rfl 1
    have m1 := hp.cell (i := 2) rfl 1
    simp at c0 c1 m1
    obtain ⟨n, hln⟩ : ∃ n, n = LL.length := ⟨_, rfl⟩
    rw [← hln] at hmax h hiL hgi
    rw [hlv, ← hln] at c1
    replace hln := Lib.hid hln; replace hlv := Lib.hid hlv
    replace hp := Lib.hid hp; replace h := Lib.hid h
    go_upto_region 3 with fail
    go_cut [23] from 15 to 23 (fun s23 wx => s23 = .bool (decide (i < n ∧ i < 10)) ∧ Hp w [] [.row 3 1 (.slice ad L.length cp) L.length (inC L), .row 75 4 (.slice none 0 0) ([] : List Pr).length (prC ([] : List Pr)), .box q2 #[.bool ed, .slice ad L.length cp, .int .i64 0, .int .u64 0, .int .u64 0, .slice none 0 0] 26, .box q1 #[.bool false, .slice none 0 0, .int .i64 0, .int .u64 0, .int .u64 0, .slice none 0 0] 26, .box q0 #[.bool ed, la, .int .i64 ty, .int .u64 fm, .int .u64 tw, pr] 26] wx)
    case first =>
      clear c0 m1
      by_cases hlt : i < n
      · have g2 : (i : Int) < (n : Int) := by omega
        by_cases hlt2 : i < 10
        · have g3 : (i : Int) < 10 := by omega
          have hd : decide (i < n ∧ i < 10) = true := by simp; omega
          replace hd := Lib.hid hd
          clear hi10 hiL hLl hgi
          go_wp2
          go_meet
          exact ⟨by rw [hd.out], hp.out⟩
        · have g3 : ¬ (i : Int) < 10 := by omega
          have hd : decide (i < n ∧ i < 10) = false := by simp; omega
          replace hd := Lib.hid hd
          clear hi10 hiL hLl hgi
          go_wp2
          go_meet
          exact ⟨by rw [hd.out], hp.out⟩
      · have g2 : ¬ (i : Int) < (n : Int) := by omega
        have hd : decide (i < n ∧ i < 10) = false := by simp; omega
        replace hd := Lib.hid hd
        clear hi10 hiL hLl hgi
        go_wp2
        go_meet
        exact ⟨by rw [hd.out], hp.out⟩
    obtain ⟨rfl, hp2⟩ := hcut
    replace hp := Lib.hid hp2
    clear hp2 c0 c1 m1
    have c0 := hp.out.cell (i := 4) rfl 0; have c1 := hp.out.cell (i := 4) rfl 1
    have m1 := hp.out.cell (i := 2) rfl 1
    simp at c0 c1 m1
    rw [hlv.out, ← hln.out] at c1
    by_cases hlt : i < n ∧ i < 10
    · rw [show decide (i < n ∧ i < 10) = true from by simp; omega]
      obtain ⟨u, rfl⟩ : ∃ u, gk = u + 1 := ⟨gk - 1, by omega⟩
      obtain ⟨b, o, rfl, hr⟩ := h.out.resolve_left (by omega)
      obtain ⟨x, hx⟩ : ∃ x, LL[i]? = some x := ⟨_, List.getElem?_eq_getElem (by have := hln.out; omega)⟩
      have d0 : wc.cell? ⟨b, o + i, none⟩ = some (.int .i64 x) := (hp.out.bel.cell hr.1).trans (hr.2 i _ (by simp [inC, hx]))
      obtain ⟨v, hv⟩ : ∃ v, bits .and .i64 x 63 = v := ⟨_, rfl⟩
      have e1 : (0 : Int) ≤ (i : Int) := by omega
      have e2 : (i : Int) < (n : Int) := by omega
      obtain ⟨l, hl⟩ : ∃ l, l = L.length := ⟨_, rfl⟩
      rw [← hl] at m1 hLl
      replace hl := Lib.hid hl
      clear hx hr h hlv
      go_upto_region 7 with fail
      clear d0 e1 e2 c1
      go_cut [51] from 32 to 51 (fun s51 wx => ∃ q : Bool, s51 = .bool q ∧ Hp w [] [.row 3 1 (.slice ad L.length cp) L.length (inC L), .row 75 4 (.slice none 0 0) ([] : List Pr).length (prC ([] : List Pr)), .box q2 #[.bool ed, .slice ad L.length cp, .int .i64 0, .int .u64 0, .int .u64 0, .slice none 0 0] 26, .box q1 #[.bool false, .slice none 0 0, .int .i64 0, .int .u64 0, .int .u64 0, .slice none 0 0] 26, .box q0 #[.bool ed, la, .int .i64 ty, .int .u64 fm, .int .u64 tw, pr] 26] wx)
      case first =>
        have hl10 : l ≤ 10 := by omega
        clear hi10 hiL hlt hgi hLl
        cases ed with
        | true =>
          go_wp2
          go_meet
          exact ⟨false, rfl, hp.out⟩
        | false =>
          cases l with
          | zero =>
            go_wp2
            go_meet
            exact ⟨true, rfl, hp.out⟩
          | succ j =>
            obtain ⟨y, hy⟩ : ∃ y, L[j]? = some y := ⟨_, List.getElem?_eq_getElem (by have := hl.out; omega)⟩
            obtain ⟨bb, cap, hv1, hc1, hc2⟩ := (hp.out.row (i := 0) rfl).form (by have := hl.out; omega)
            injection hv1 with hv1 hv2 hv3
            subst hv1 hv3
            have d0 : wc.cell? ⟨bb, j, none⟩ = some (.int .i64 y) := ((hp.out.row (i := 0) rfl).cellAt j (by rw [← hl.out]; omega)).trans (by simp [inC, hy])
            have g1 : (0 : Int) ≤ (j : Int) := by omega
            have g2 : (j : Int) < (j : Int) + 1 := by omega
            have e0 : (((j : Int) + 1) == 0) = false := by rw [beq_eq_false_iff_ne]; omega
            have hwj : wrap64 (j : Int) = (j : Int) := by unfold wrap64; omega
            clear hc1 hc2 hv2 hy
            cases hq : decide (y < v) with
            | true =>
              go_wp2
              go_meet
              exact ⟨true, rfl, hp.out⟩
            | false =>
              go_wp2
              go_meet
              exact ⟨false, rfl, hp.out⟩
      obtain ⟨q, rfl, hp3⟩ := hcut
      replace hp := Lib.hid hp3
      clear hp3 c0 m1
      cases q with
      | false =>
        go_wp2
        go_roundg u
        case rel => exact ⟨i + 1, L, ad, cp, by go_num, by have := hln.out; omega, by omega, by have := hln.out; omega, by have := hl.out; omega, hp.out⟩
        case measure => omega
      | true =>
        have m1 := hp.out.cell (i := 2) rfl 1
        simp at m1
        have hl9 : L.length < 100000000 := by have := hl.out; omega
        replace hl9 := Lib.hid hl9
        go_wp2_with (at_builtin; go_loud (refine wpList_append_hp rfl _ _ rfl Tryd.underlying22 iInfo rfl (by decide) (by decide) (hp.out.alloc_ (.cells #[.int .i64 v] 3)) 0 rfl rfl _ _ [.int .i64 v] rfl rfl (block_cells (heap_alloc_new _ _)) (by intro u hu; simp at hu; subst hu; rfl) hl9.out ?_; intro v5 w5 h5 hv5; obtain ⟨b5, cp5, rfl⟩ := hv5; have hp5 := Lib.hid h5; clear h5; have t1 := hp5.out.cell (i := 2) rfl 1; have f1 := hp5.out.free (i := 2) rfl 1; simp at t1))
        go_roundg u
        case rel => exact ⟨i + 1, L ++ [v], some ⟨b5, 0, none⟩, cp5, by go_num, by have := hln.out; omega, by omega, by have := hln.out; omega, by have := hl.out; simp; omega, by have := hp5.out.put (i := 2) rfl 1 (.slice (some ⟨b5, 0, none⟩) (L.length + 1) cp5); rw [show (L ++ [v]).length = L.length + 1 by simp, show inC (L ++ [v]) = inC L ++ [.int .i64 v] by simp [inC]]; exact this⟩
        case measure => omega
    · rw [show decide (i < n ∧ i < 10) = false from by simp; omega]
      have hL10 : L.length ≤ 10 := by omega
      replace hL10 := Lib.hid hL10
      clear c0 c1 m1 h hlt hLl hiL hi10 hgi hlv hla
      go_wp2
      go_loopg [9] (P.length + 19) (fun gi s9 wr => ∃ (i : Nat) (PP : List Pr) (ad5 : Option Addr) (cp5 : Nat), s9 = .int .i64 (i : Int) ∧ i + gi = P.length + 19 ∧ i ≤ 18 ∧ i ≤ P.length ∧ PP.length ≤ i ∧ Rise PP ∧ Hp w [] [.row 3 1 (.slice ad L.length cp) L.length (inC L), .row 75 4 (.slice ad5 PP.length cp5) PP.length (prC PP), .box q2 #[.bool ed, .slice ad L.length cp, .int .i64 0, .int .u64 0, .int .u64 0, .slice ad5 PP.length cp5] 26, .box q1 #[.bool false, .slice none 0 0, .int .i64 0, .int .u64 0, .int .u64 0, .slice none 0 0] 26, .box q0 #[.bool ed, la, .int .i64 ty, .int .u64 fm, .int .u64 tw, pr] 26] wr)
      case atStart => exact ⟨0, [], none, 0, rfl, by omega, by omega, by omega, by simp, List.Pairwise.nil, hp.out⟩
      case round =>
        clear hp
        obtain ⟨i, PP, ad5, cp5, rfl, hgi, hi10, hiL, hLl, hri, hp⟩ := hrel
        obtain ⟨a, lcp, hlv, hmax, h⟩ := hpr.out
        have c0 := hp.cell (i := 4) rfl 0; have c5 := hp.cell (i := 4) rfl 5
        have m5 := hp.cell (i := 2) rfl 5
        simp at c0 c5 m5
        obtain ⟨np, hnp⟩ : ∃ n, n = P.length := ⟨_, rfl⟩
        rw [← hnp] at hmax h hiL hgi
        rw [hlv, ← hnp] at c5
        replace hnp := Lib.hid hnp; replace hlv := Lib.hid hlv; replace hri := Lib.hid hri
        replace hp := Lib.hid hp; replace h := Lib.hid h
        go_upto_region 10 with fail
        go_cut [66] from 58 to 66 (fun s66 wx => s66 = .bool (decide (i < np ∧ i < 18)) ∧ Hp w [] [.row 3 1 (.slice ad L.length cp) L.length (inC L), .row 75 4 (.slice ad5 PP.length cp5) PP.length (prC PP), .box q2 #[.bool ed, .slice ad L.length cp, .int .i64 0, .int .u64 0, .int .u64 0, .slice ad5 PP.length cp5] 26, .box q1 #[.bool false, .slice none 0 0, .int .i64 0, .int .u64 0, .int .u64 0, .slice none 0 0] 26, .box q0 #[.bool ed, la, .int .i64 ty, .int .u64 fm, .int .u64 tw, pr] 26] wx)
        case first =>
          clear c0 m5
          by_cases hlt : i < np
          · have g2 : (i : Int) < (np : Int) := by omega
            by_cases hlt2 : i < 18
            · have g3 : (i : Int) < 18 := by omega
              have hd : decide (i < np ∧ i < 18) = true := by simp; omega
              replace hd := Lib.hid hd
              clear hi10 hiL hLl hgi
              go_wp2
              go_meet
              exact ⟨by rw [hd.out], hp.out⟩
            · have g3 : ¬ (i : Int) < 18 := by omega
              have hd : decide (i < np ∧ i < 18) = false := by simp; omega
              replace hd := Lib.hid hd
              clear hi10 hiL hLl hgi
              go_wp2
              go_meet
              exact ⟨by rw [hd.out], hp.out⟩
          · have g2 : ¬ (i : Int) < (np : Int) := by omega
            have hd : decide (i < np ∧ i < 18) = false := by simp; omega
            replace hd := Lib.hid hd
            clear hi10 hiL hLl hgi
            go_wp2
            go_meet
            exact ⟨by rw [hd.out], hp.out⟩
        obtain ⟨rfl, hp2⟩ := hcut
        replace hp := Lib.hid hp2
        clear hp2 c0 c5 m5
        have c0 := hp.out.cell (i := 4) rfl 0; have c5 := hp.out.cell (i := 4) rfl 5
        have m5 := hp.out.cell (i := 2) rfl 5
        simp at c0 c5 m5
        rw [hlv.out, ← hnp.out] at c5
        by_cases hlt : i < np ∧ i < 18
        · rw [show decide (i < np ∧ i < 18) = true from by simp; omega]
          obtain ⟨u, rfl⟩ : ∃ u, gk = u + 1 := ⟨gk - 1, by omega⟩
          obtain ⟨b, o, rfl, hr⟩ := h.out.resolve_left (by omega)
          obtain ⟨x, hx⟩ : ∃ x, P[i]? = some x := ⟨_, List.getElem?_eq_getElem (by have := hnp.out; omega)⟩
          obtain ⟨xk, xd, xn, xs⟩ := x
          have hds : ∀ W, Below w.heap.size w W → W.cell? ⟨b, o + i * 4, none⟩ = some (.int .i64 xk) ∧ W.cell? ⟨b, o + i * 4 + 1, none⟩ = some (.int .i64 xd) ∧ W.cell? ⟨b, o + i * 4 + 2, none⟩ = some (.int .i64 xn) ∧ W.cell? ⟨b, o + i * 4 + 3, none⟩ = some (.string xs) := fun W hb => ⟨(hb.cell hr.1).trans (hr.elem0 Pr.c_len hx rfl), (hb.cell hr.1).trans (hr.elem Pr.c_len hx rfl), (hb.cell hr.1).trans (hr.elem Pr.c_len hx rfl), (hb.cell hr.1).trans (hr.elem Pr.c_len hx rfl)⟩
          obtain ⟨⟨vd, vn, vs⟩, _, hnear⟩ := near_any xd xn xs
          replace hnear : ∀ W, Calls Tryd.prog 18 #[.agg #[.int .i64 xd, .int .i64 xn, .string xs]] W fun e w' => e = .returned (.agg #[.int .i64 vd, .int .i64 vn, .string vs]) ∧ Below W.heap.size W w' := hnear
          have d0 := (hds _ hp.out.bel).1
          obtain ⟨v, hv⟩ : ∃ v, bits .and .i64 xk 63 = v := ⟨_, rfl⟩
          have e1 : (0 : Int) ≤ (i : Int) := by omega
          have e2 : (i : Int) < (np : Int) := by omega
          obtain ⟨l, hl⟩ : ∃ l, l = PP.length := ⟨_, rfl⟩
          rw [← hl] at m5 hLl
          replace hl := Lib.hid hl; replace hds := Lib.hid hds; replace hnear := Lib.hid hnear
          clear hx hr h
          go_upto_region 14 with fail
          clear d0
          go_cut [91] from 79 to 91 (fun s91 wx => ∃ q : Bool, s91 = .bool q ∧ (q = true → ∀ p ∈ PP, p.key < v) ∧ Hp w [] [.row 3 1 (.slice ad L.length cp) L.length (inC L), .row 75 4 (.slice ad5 PP.length cp5) PP.length (prC PP), .box q2 #[.bool ed, .slice ad L.length cp, .int .i64 0, .int .u64 0, .int .u64 0, .slice ad5 PP.length cp5] 26, .box q1 #[.bool false, .slice none 0 0, .int .i64 0, .int .u64 0, .int .u64 0, .slice none 0 0] 26, .box q0 #[.bool ed, la, .int .i64 ty, .int .u64 fm, .int .u64 tw, pr] 26] wx)
          case first =>
            have hl10 : l ≤ 18 := by omega
            clear hi10 hiL hlt hgi hLl e1 e2 c5
            cases l with
            | zero =>
              have hP0 : PP = [] := List.length_eq_zero_iff.1 hl.out.symm
              replace hP0 := Lib.hid hP0
              go_wp2
              go_meet
              exact ⟨true, rfl, fun _ p hp => by rw [hP0.out] at hp; simp at hp, hp.out⟩
            | succ j =>
              obtain ⟨y, hy⟩ : ∃ y, PP[j]? = some y := ⟨_, List.getElem?_eq_getElem (by have := hl.out; omega)⟩
              have hall := rise_last hri.out hy hl.out
              obtain ⟨bb, cap, hv1, hc1, hc2⟩ := (hp.out.row (i := 1) rfl).form (by have := hl.out; omega)
              injection hv1 with hv1 hv2 hv3
              subst hv1 hv3
              have d0 : wc.cell? ⟨bb, j * 4, none⟩ = some (.int .i64 y.key) := ((hp.out.row (i := 1) rfl).cellAt (j * 4) (by rw [← hl.out]; omega)).trans (prC_key hy)
              have g1 : (0 : Int) ≤ (j : Int) := by omega
              have g2 : (j : Int) < (j : Int) + 1 := by omega
              have e0 : (((j : Int) + 1) == 0) = false := by rw [beq_eq_false_iff_ne]; omega
              have hwj : wrap64 (j : Int) = (j : Int) := by unfold wrap64; omega
              replace hall := Lib.hid hall
              clear hc1 hc2 hv2 hy
              cases hq : decide (y.key < v) with
              | true =>
                go_wp2
                go_meet
                exact ⟨true, rfl, fun _ p hp => by have := hall.out p hp; have := of_decide_eq_true hq; omega, hp.out⟩
              | false =>
                go_wp2
                go_meet
                exact ⟨false, rfl, fun h => (Bool.false_ne_true h).elim, hp.out⟩
          obtain ⟨q, rfl, hkey, hp3⟩ := hcut
          replace hp := Lib.hid hp3
          clear hp3 c0 m5 c5
          cases q with
          | false =>
            go_wp2
            go_roundg u
            case rel => exact ⟨i + 1, PP, ad5, cp5, by go_num, by have := hnp.out; omega, by omega, by have := hnp.out; omega, by have := hl.out; omega, hri.out, hp.out⟩
            case measure => omega
          | true =>
            have hSk : ∀ (rs : List Rs) (j : Nat) (W' : World), Hp w [] rs W' → rs[j]? = some (.box q0 #[.bool ed, la, .int .i64 ty, .int .u64 fm, .int .u64 tw, pr] 26) → (W'.cell? ⟨q0, 5, none⟩ = some (.slice (some ⟨b, o, none⟩) np lcp) ∧ W'.cell? ⟨b, o + i * 4 + 1, none⟩ = some (.int .i64 xd) ∧ W'.cell? ⟨b, o + i * 4 + 2, none⟩ = some (.int .i64 xn) ∧ W'.cell? ⟨b, o + i * 4 + 3, none⟩ = some (.string xs)) := fun rs j W' h hj => ⟨by have := h.cell hj 5; simp at this; rw [hlv.out, ← hnp.out] at this; exact this, (hds.out _ h.bel).2⟩
            replace hSk := Lib.hid hSk; replace hkey := Lib.hid hkey
            have hl9 : PP.length + 1 ≤ 100000000 := by have := hl.out; omega
            replace hl9 := Lib.hid hl9
            go_upto_region 15 with fail
            replace hp := Lib.hid hp.out.drew
            clear hlv hds
            refine wp_region_noPanic ?_; refine wp_region_held_drew (S := (fun W' => W'.cell? ⟨q0, 5, none⟩ = some (.slice (some ⟨b, o, none⟩) np lcp) ∧ W'.cell? ⟨b, o + i * 4 + 1, none⟩ = some (.int .i64 xd) ∧ W'.cell? ⟨b, o + i * 4 + 2, none⟩ = some (.int .i64 xn) ∧ W'.cell? ⟨b, o + i * 4 + 3, none⟩ = some (.string xs))) (by kernel_rfl) ?_ (fun hHeld => ?_); (focus ((try dsimp only); (first | exact hSk.out _ 4 _ hp.out rfl | exact hSk.out _ 5 _ hp.out rfl); done))
            (refine take_t (i := 0) (d := 92) (oi := _) (v := ?_) rfl rfl (by kernel_rfl) (by kernel_rfl) (by kernel_rfl) (by rfl) ?_ (by assumption) ?_; rotate_left; (focus (intro w0 hSw; (try dsimp only at hSw); go_simp; (try with_reducible rfl); done)); try simp only [Act.put, List.setIfInBounds_toArray, List.set_cons_zero, List.set_cons_succ]); (refine take_t (i := 2) (d := 94) (oi := _) (v := ?_) rfl rfl (by kernel_rfl) (by kernel_rfl) (by kernel_rfl) (by rfl) ?_ (by assumption) ?_; rotate_left; (focus (intro w0 hSw; (try dsimp only at hSw); go_simp; (try with_reducible rfl); done)); try simp only [Act.put, List.setIfInBounds_toArray, List.set_cons_zero, List.set_cons_succ]); (refine take_t (i := 3) (d := 95) (oi := _) (v := ?_) rfl rfl (by kernel_rfl) (by kernel_rfl) (by kernel_rfl) (by rfl) ?_ (by assumption) ?_; rotate_left; (focus (intro w0 hSw; (try dsimp only at hSw); go_simp; (try with_reducible rfl); done)); try simp only [Act.put, List.setIfInBounds_toArray, List.set_cons_zero, List.set_cons_succ]); (refine take_t (i := 4) (d := 96) (oi := _) (v := ?_) rfl rfl (by kernel_rfl) (by kernel_rfl) (by kernel_rfl) (by rfl) ?_ (by assumption) ?_; rotate_left; (focus (intro w0 hSw; (try dsimp only at hSw); go_simp; (try with_reducible rfl); done)); try simp only [Act.put, List.setIfInBounds_toArray, List.set_cons_zero, List.set_cons_succ]); (refine take_t (i := 5) (d := 97) (oi := _) (v := ?_) rfl rfl (by kernel_rfl) (by kernel_rfl) (by kernel_rfl) (by rfl) ?_ (by assumption) ?_; rotate_left; (focus (intro w0 hSw; (try dsimp only at hSw); go_simp; (try with_reducible rfl); done)); try simp only [Act.put, List.setIfInBounds_toArray, List.set_cons_zero, List.set_cons_succ]); (refine take_t (i := 6) (d := 98) (oi := _) (v := ?_) rfl rfl (by kernel_rfl) (by kernel_rfl) (by kernel_rfl) (by rfl) ?_ (by assumption) ?_; rotate_left; (focus (intro w0 hSw; (try dsimp only at hSw); go_simp; (try with_reducible rfl); done)); try simp only [Act.put, List.setIfInBounds_toArray, List.set_cons_zero, List.set_cons_succ]); (refine take_t (i := 7) (d := 99) (oi := _) (v := ?_) rfl rfl (by kernel_rfl) (by kernel_rfl) (by kernel_rfl) (by rfl) ?_ (by assumption) ?_; rotate_left; (focus (intro w0 hSw; (try dsimp only at hSw); go_simp; (try with_reducible rfl); done)); try simp only [Act.put, List.setIfInBounds_toArray, List.set_cons_zero, List.set_cons_succ]); (refine take_t (i := 8) (d := 100) (oi := _) (v := ?_) rfl rfl (by kernel_rfl) (by kernel_rfl) (by kernel_rfl) (by rfl) ?_ (by assumption) ?_; rotate_left; (focus (intro w0 hSw; (try dsimp only at hSw); go_simp; (try with_reducible rfl); done)); try simp only [Act.put, List.setIfInBounds_toArray, List.set_cons_zero, List.set_cons_succ])
            have m5 := hp.out.cell (i := 2) rfl 5
            simp at m5
            refine wpAnyH_ready (rs := [1, 9]) (by kernel_rfl) (by simp) ?_; refine AllReadyH.cons (o := _) rfl (fun K' hK => ?_) (AllReadyH.cons (o := _) rfl (fun K' hK => ?_) AllReadyH.nil)
            · go_simp; (skip); (try dsimp only); refine hK.out _ _ ?_ (fun hHeld2 => ?_); (focus ((try dsimp only); (first | exact hSk.out _ 4 _ hp.out rfl | exact hSk.out _ 5 _ hp.out rfl); done)); clear hK K'; clear hHeld; have hHeld := hHeld2; clear hHeld2; try simp only [Act.put, List.setIfInBounds_toArray, List.set_cons_zero, List.set_cons_succ]
              (refine wpAnyH_ready (rs := [9]) (by kernel_rfl) (by simp) ?_; refine AllReadyH.cons (o := _) rfl (fun K' hK => ?_) AllReadyH.nil; go_simp; (go_at_call 18; (with_reducible refine (hnear.out _).mono ?_); rintro e w5 ⟨rfl, b5⟩; replace hp := Lib.hid (hp.out.below b5); clear b5; have m5 := hp.out.cell (i := 2) rfl 5; simp at m5); (try dsimp only); refine hK.out _ _ ?_ (fun hHeld2 => ?_); (focus ((try dsimp only); (first | exact hSk.out _ 4 _ hp.out rfl | exact hSk.out _ 5 _ hp.out rfl); done)); clear hK K'; clear hHeld; have hHeld := hHeld2; clear hHeld2; try simp only [Act.put, List.setIfInBounds_toArray, List.set_cons_zero, List.set_cons_succ]); (refine take_t (i := 10) (d := 102) (oi := _) (v := ?_) rfl rfl (by kernel_rfl) (by kernel_rfl) (by kernel_rfl) (by rfl) ?_ (by assumption) ?_; rotate_left; (focus (intro w0 hSw; (try dsimp only at hSw); go_simp; (try with_reducible rfl); done)); try simp only [Act.put, List.setIfInBounds_toArray, List.set_cons_zero, List.set_cons_succ]); (refine wpAnyH_ready (rs := [11]) (by kernel_rfl) (by simp) ?_; refine AllReadyH.cons (o := _) rfl (fun K' hK => ?_) AllReadyH.nil; go_simp; (replace hp := Lib.hid (hp.out.alloc #[.int .i64 v, .int .i64 vd, .int .i64 vn, .string vs] 75); have m5 := hp.out.cell (i := 3) rfl 5; simp at m5); (try dsimp only); refine hK.out _ _ ?_ (fun hHeld2 => ?_); (focus ((try dsimp only); (first | exact hSk.out _ 4 _ hp.out rfl | exact hSk.out _ 5 _ hp.out rfl); done)); clear hK K'; clear hHeld; have hHeld := hHeld2; clear hHeld2; try simp only [Act.put, List.setIfInBounds_toArray, List.set_cons_zero, List.set_cons_succ]); (refine wpAnyH_ready (rs := [12]) (by kernel_rfl) (by simp) ?_; refine AllReadyH.cons (o := _) rfl (fun K' hK => ?_) AllReadyH.nil; (refine step_append_sl_hp rfl _ _ rfl Tryd.underlying24 pInfo rfl (by decide) (by decide) hp.out 2 rfl rfl rfl (box_sl' hp.out (i := 0) rfl) rfl (by intro u hu; simp at hu; rcases hu with rfl | rfl | rfl | rfl <;> rfl) hl9.out ?_; intro v6 w6 h6 hv6; obtain ⟨ad6, cp6, rfl⟩ := hv6; replace hp := Lib.hid h6; clear h6; have m6 := hp.out.cell (i := 3) rfl 5; have f6 := hp.out.free (i := 3) rfl 5; simp at m6); (try dsimp only); refine hK.out _ _ ?_ (fun hHeld2 => ?_); (focus ((try dsimp only); (first | exact hSk.out _ 4 _ hp.out rfl | exact hSk.out _ 5 _ hp.out rfl); done)); clear hK K'; clear hHeld; have hHeld := hHeld2; clear hHeld2; try simp only [Act.put, List.setIfInBounds_toArray, List.set_cons_zero, List.set_cons_succ]); (refine take_t (i := 13) (d := 105) (oi := _) (v := ?_) rfl rfl (by kernel_rfl) (by kernel_rfl) (by kernel_rfl) (by rfl) ?_ (by assumption) ?_; rotate_left; (focus (intro w0 hSw; (try dsimp only at hSw); go_simp; (try with_reducible rfl); done)); try simp only [Act.put, List.setIfInBounds_toArray, List.set_cons_zero, List.set_cons_succ]); (refine wpAnyH_ready (rs := [14]) (by kernel_rfl) (by simp) ?_; refine AllReadyH.cons (o := _) rfl (fun K' hK => ?_) AllReadyH.nil; go_simp; (replace hp := Lib.hid (hp.out.put (i := 3) rfl 5 (.slice ad6 (PP.length + 1) cp6))); (try dsimp only); refine hK.out _ _ ?_ (fun hHeld2 => ?_); (focus ((try dsimp only); (first | exact hSk.out _ 4 _ hp.out rfl | exact hSk.out _ 5 _ hp.out rfl); done)); clear hK K'; clear hHeld; have hHeld := hHeld2; clear hHeld2; try simp only [Act.put, List.setIfInBounds_toArray, List.set_cons_zero, List.set_cons_succ])
              refine wpAnyH_done (by kernel_rfl) ?_ _; refine NoPanic.normal ?_
              go_wp2
              go_roundg u
              case rel => exact ⟨i + 1, PP ++ [⟨v, vd, vn, vs⟩], ad6, cp6, by go_num, by have := hnp.out; omega, by omega, by have := hnp.out; omega, by have := hl.out; simp; omega, rise_snoc (x := ⟨v, vd, vn, vs⟩) hri.out (by have := hkey.out; simpa using this), by have := hp.out.drop 0; rw [show (PP ++ [(⟨v, vd, vn, vs⟩ : Pr)]).length = PP.length + 1 by simp, show prC (PP ++ [(⟨v, vd, vn, vs⟩ : Pr)]) = prC PP ++ [.int .i64 v, .int .i64 vd, .int .i64 vn, .string vs] by rw [prC_append]; simp [prC, Pr.c]]; exact this⟩
              case measure => omega
            · go_simp; (go_at_call 18; (with_reducible refine (hnear.out _).mono ?_); rintro e w5 ⟨rfl, b5⟩; replace hp := Lib.hid (hp.out.below b5); clear b5; have m5 := hp.out.cell (i := 2) rfl 5; simp at m5); (try dsimp only); refine hK.out _ _ ?_ (fun hHeld2 => ?_); (focus ((try dsimp only); (first | exact hSk.out _ 4 _ hp.out rfl | exact hSk.out _ 5 _ hp.out rfl); done)); clear hK K'; clear hHeld; have hHeld := hHeld2; clear hHeld2; try simp only [Act.put, List.setIfInBounds_toArray, List.set_cons_zero, List.set_cons_succ]
              (refine take_t (i := 10) (d := 102) (oi := _) (v := ?_) rfl rfl (by kernel_rfl) (by kernel_rfl) (by kernel_rfl) (by rfl) ?_ (by assumption) ?_; rotate_left; (focus (intro w0 hSw; (try dsimp only at hSw); go_simp; (try with_reducible rfl); done)); try simp only [Act.put, List.setIfInBounds_toArray, List.set_cons_zero, List.set_cons_succ])
              refine wpAnyH_ready (rs := [1, 11]) (by kernel_rfl) (by simp) ?_; refine AllReadyH.cons (o := _) rfl (fun K' hK => ?_) (AllReadyH.cons (o := _) rfl (fun K' hK => ?_) AllReadyH.nil)
              · go_simp; (skip); (try dsimp only); refine hK.out _ _ ?_ (fun hHeld2 => ?_); (focus ((try dsimp only); (first | exact hSk.out _ 4 _ hp.out rfl | exact hSk.out _ 5 _ hp.out rfl); done)); clear hK K'; clear hHeld; have hHeld := hHeld2; clear hHeld2; try simp only [Act.put, List.setIfInBounds_toArray, List.set_cons_zero, List.set_cons_succ]
                (refine wpAnyH_ready (rs := [11]) (by kernel_rfl) (by simp) ?_; refine AllReadyH.cons (o := _) rfl (fun K' hK => ?_) AllReadyH.nil; go_simp; (replace hp := Lib.hid (hp.out.alloc #[.int .i64 v, .int .i64 vd, .int .i64 vn, .string vs] 75); have m5 := hp.out.cell (i := 3) rfl 5; simp at m5); (try dsimp only); refine hK.out _ _ ?_ (fun hHeld2 => ?_); (focus ((try dsimp only); (first | exact hSk.out _ 4 _ hp.out rfl | exact hSk.out _ 5 _ hp.out rfl); done)); clear hK K'; clear hHeld; have hHeld := hHeld2; clear hHeld2; try simp only [Act.put, List.setIfInBounds_toArray, List.set_cons_zero, List.set_cons_succ]); (refine wpAnyH_ready (rs := [12]) (by kernel_rfl) (by simp) ?_; refine AllReadyH.cons (o := _) rfl (fun K' hK => ?_) AllReadyH.nil; (refine step_append_sl_hp rfl _ _ rfl Tryd.underlying24 pInfo rfl (by decide) (by decide) hp.out 2 rfl rfl rfl (box_sl' hp.out (i := 0) rfl) rfl (by intro u hu; simp at hu; rcases hu with rfl | rfl | rfl | rfl <;> rfl) hl9.out ?_; intro v6 w6 h6 hv6; obtain ⟨ad6, cp6, rfl⟩ := hv6; replace hp := Lib.hid h6; clear h6; have m6 := hp.out.cell (i := 3) rfl 5; have f6 := hp.out.free (i := 3) rfl 5; simp at m6); (try dsimp only); refine hK.out _ _ ?_ (fun hHeld2 => ?_); (focus ((try dsimp only); (first | exact hSk.out _ 4 _ hp.out rfl | exact hSk.out _ 5 _ hp.out rfl); done)); clear hK K'; clear hHeld; have hHeld := hHeld2; clear hHeld2; try simp only [Act.put, List.setIfInBounds_toArray, List.set_cons_zero, List.set_cons_succ]); (refine take_t (i := 13) (d := 105) (oi := _) (v := ?_) rfl rfl (by kernel_rfl) (by kernel_rfl) (by kernel_rfl) (by rfl) ?_ (by assumption) ?_; rotate_left; (focus (intro w0 hSw; (try dsimp only at hSw); go_simp; (try with_reducible rfl); done)); try simp only [Act.put, List.setIfInBounds_toArray, List.set_cons_zero, List.set_cons_succ]); (refine wpAnyH_ready (rs := [14]) (by kernel_rfl) (by simp) ?_; refine AllReadyH.cons (o := _) rfl (fun K' hK => ?_) AllReadyH.nil; go_simp; (replace hp := Lib.hid (hp.out.put (i := 3) rfl 5 (.slice ad6 (PP.length + 1) cp6))); (try dsimp only); refine hK.out _ _ ?_ (fun hHeld2 => ?_); (focus ((try dsimp only); (first | exact hSk.out _ 4 _ hp.out rfl | exact hSk.out _ 5 _ hp.out rfl); done)); clear hK K'; clear hHeld; have hHeld := hHeld2; clear hHeld2; try simp only [Act.put, List.setIfInBounds_toArray, List.set_cons_zero, List.set_cons_succ])
                refine wpAnyH_done (by kernel_rfl) ?_ _; refine NoPanic.normal ?_
                go_wp2
                go_roundg u
                case rel => exact ⟨i + 1, PP ++ [⟨v, vd, vn, vs⟩], ad6, cp6, by go_num, by have := hnp.out; omega, by omega, by have := hnp.out; omega, by have := hl.out; simp; omega, rise_snoc (x := ⟨v, vd, vn, vs⟩) hri.out (by have := hkey.out; simpa using this), by have := hp.out.drop 0; rw [show (PP ++ [(⟨v, vd, vn, vs⟩ : Pr)]).length = PP.length + 1 by simp, show prC (PP ++ [(⟨v, vd, vn, vs⟩ : Pr)]) = prC PP ++ [.int .i64 v, .int .i64 vd, .int .i64 vn, .string vs] by rw [prC_append]; simp [prC, Pr.c]]; exact this⟩
                case measure => omega
              · go_simp; (replace hp := Lib.hid (hp.out.alloc #[.int .i64 v, .int .i64 vd, .int .i64 vn, .string vs] 75); have m5 := hp.out.cell (i := 3) rfl 5; simp at m5); (try dsimp only); refine hK.out _ _ ?_ (fun hHeld2 => ?_); (focus ((try dsimp only); (first | exact hSk.out _ 4 _ hp.out rfl | exact hSk.out _ 5 _ hp.out rfl); done)); clear hK K'; clear hHeld; have hHeld := hHeld2; clear hHeld2; try simp only [Act.put, List.setIfInBounds_toArray, List.set_cons_zero, List.set_cons_succ]
                (refine wpAnyH_ready (rs := [1]) (by kernel_rfl) (by simp) ?_; refine AllReadyH.cons (o := _) rfl (fun K' hK => ?_) AllReadyH.nil; go_simp; (skip); (try dsimp only); refine hK.out _ _ ?_ (fun hHeld2 => ?_); (focus ((try dsimp only); (first | exact hSk.out _ 4 _ hp.out rfl | exact hSk.out _ 5 _ hp.out rfl); done)); clear hK K'; clear hHeld; have hHeld := hHeld2; clear hHeld2; try simp only [Act.put, List.setIfInBounds_toArray, List.set_cons_zero, List.set_cons_succ]); (refine wpAnyH_ready (rs := [12]) (by kernel_rfl) (by simp) ?_; refine AllReadyH.cons (o := _) rfl (fun K' hK => ?_) AllReadyH.nil; (refine step_append_sl_hp rfl _ _ rfl Tryd.underlying24 pInfo rfl (by decide) (by decide) hp.out 2 rfl rfl rfl (box_sl' hp.out (i := 0) rfl) rfl (by intro u hu; simp at hu; rcases hu with rfl | rfl | rfl | rfl <;> rfl) hl9.out ?_; intro v6 w6 h6 hv6; obtain ⟨ad6, cp6, rfl⟩ := hv6; replace hp := Lib.hid h6; clear h6; have m6 := hp.out.cell (i := 3) rfl 5; have f6 := hp.out.free (i := 3) rfl 5; simp at m6); (try dsimp only); refine hK.out _ _ ?_ (fun hHeld2 => ?_); (focus ((try dsimp only); (first | exact hSk.out _ 4 _ hp.out rfl | exact hSk.out _ 5 _ hp.out rfl); done)); clear hK K'; clear hHeld; have hHeld := hHeld2; clear hHeld2; try simp only [Act.put, List.setIfInBounds_toArray, List.set_cons_zero, List.set_cons_succ]); (refine take_t (i := 13) (d := 105) (oi := _) (v := ?_) rfl rfl (by kernel_rfl) (by kernel_rfl) (by kernel_rfl) (by rfl) ?_ (by assumption) ?_; rotate_left; (focus (intro w0 hSw; (try dsimp only at hSw); go_simp; (try with_reducible rfl); done)); try simp only [Act.put, List.setIfInBounds_toArray, List.set_cons_zero, List.set_cons_succ]); (refine wpAnyH_ready (rs := [14]) (by kernel_rfl) (by simp) ?_; refine AllReadyH.cons (o := _) rfl (fun K' hK => ?_) AllReadyH.nil; go_simp; (replace hp := Lib.hid (hp.out.put (i := 3) rfl 5 (.slice ad6 (PP.length + 1) cp6))); (try dsimp only); refine hK.out _ _ ?_ (fun hHeld2 => ?_); (focus ((try dsimp only); (first | exact hSk.out _ 4 _ hp.out rfl | exact hSk.out _ 5 _ hp.out rfl); done)); clear hK K'; clear hHeld; have hHeld := hHeld2; clear hHeld2; try simp only [Act.put, List.setIfInBounds_toArray, List.set_cons_zero, List.set_cons_succ])
                refine wpAnyH_done (by kernel_rfl) ?_ _; refine NoPanic.normal ?_
                go_wp2
                go_roundg u
                case rel => exact ⟨i + 1, PP ++ [⟨v, vd, vn, vs⟩], ad6, cp6, by go_num, by have := hnp.out; omega, by omega, by have := hnp.out; omega, by have := hl.out; simp; omega, rise_snoc (x := ⟨v, vd, vn, vs⟩) hri.out (by have := hkey.out; simpa using this), by have := hp.out.drop 0; rw [show (PP ++ [(⟨v, vd, vn, vs⟩ : Pr)]).length = PP.length + 1 by simp, show prC (PP ++ [(⟨v, vd, vn, vs⟩ : Pr)]) = prC PP ++ [.int .i64 v, .int .i64 vd, .int .i64 vn, .string vs] by rw [prC_append]; simp [prC, Pr.c]]; exact this⟩
                case measure => omega
        · rw [show decide (i < np ∧ i < 18) = false from by simp; omega]
          have hPl : PP.length ≤ 18 := by omega
          replace hPl := Lib.hid hPl
          clear c0 c5 m5 h hlt hLl hiL hi10 hgi hlv
          have c0 := hp.out.cell (i := 4) rfl 0; have c2 := hp.out.cell (i := 4) rfl 2; have c3 := hp.out.cell (i := 4) rfl 3; have c4 := hp.out.cell (i := 4) rfl 4
          have m2 := hp.out.cell (i := 2) rfl 2; have m3 := hp.out.cell (i := 2) rfl 3; have m4 := hp.out.cell (i := 2) rfl 4
          have f2 := hp.out.free (i := 2) rfl 2; have f3 := hp.out.free (i := 2) rfl 3; have f4 := hp.out.free (i := 2) rfl 4
          simp at c0 c2 c3 c4 m2 m3 m4
          obtain ⟨v7, hv7⟩ : ∃ v, bits .and .i64 ty 63 = v := ⟨_, rfl⟩
          cases ed with
          | true =>
            go_upto_region 17 with fail
            go_region
            have hp9 : Hp w [] [.row 3 1 (.slice ad L.length cp) L.length (inC L), .row 75 4 (.slice ad5 PP.length cp5) PP.length (prC PP), .box q2 #[.bool true, .slice ad L.length cp, .int .i64 v7, .int .u64 fm, .int .u64 tw, .slice ad5 PP.length cp5] 26, .box q1 #[.bool false, .slice none 0 0, .int .i64 0, .int .u64 0, .int .u64 0, .slice none 0 0] 26, .box q0 #[.bool true, la, .int .i64 ty, .int .u64 fm, .int .u64 tw, pr] 26] _ := (((hp.out.put (i := 2) rfl 2 (.int .i64 v7)).put (i := 2) rfl 3 (.int .u64 fm)).put (i := 2) rfl 4 (.int .u64 tw)).drew
            clear hp c0 c2 c3 c4 m2 m3 m4 f2 f3 f4
            have u0 := hp9.cell (i := 2) rfl 0; have u1 := hp9.cell (i := 2) rfl 1; have u2 := hp9.cell (i := 2) rfl 2; have u3 := hp9.cell (i := 2) rfl 3; have u4 := hp9.cell (i := 2) rfl 4; have u5 := hp9.cell (i := 2) rfl 5
            have r0 := hp9.cell (i := 3) rfl 0; have r1 := hp9.cell (i := 3) rfl 1; have r2 := hp9.cell (i := 3) rfl 2; have r3 := hp9.cell (i := 3) rfl 3; have r4 := hp9.cell (i := 3) rfl 4; have r5 := hp9.cell (i := 3) rfl 5
            have f0 := hp9.free (i := 3) rfl 0; have f1 := hp9.free (i := 3) rfl 1; have f2 := hp9.free (i := 3) rfl 2; have f3 := hp9.free (i := 3) rfl 3; have f4 := hp9.free (i := 3) rfl 4; have f5 := hp9.free (i := 3) rfl 5
            replace hp9 := Lib.hid hp9
            generalize ((((wc.setCell _ _).setCell _ _).setCell _ _).drew : World) = W9 at hp9 u0 u1 u2 u3 u4 u5 r0 r1 r2 r3 r4 r5 f0 f1 f2 f3 f4 f5 ⊢
            simp at u0 u1 u2 u3 u4 u5 r0 r1 r2 r3 r4 r5
            have hpf := Lib.hid ((((((hp9.out.put (i := 3) rfl 0 (.bool true)).put (i := 3) rfl 1 (.slice ad L.length cp)).put (i := 3) rfl 2 (.int .i64 v7)).put (i := 3) rfl 3 (.int .u64 fm)).put (i := 3) rfl 4 (.int .u64 tw)).put (i := 3) rfl 5 (.slice ad5 PP.length cp5))
            clear hp9
            go_wp2
            have hpg := hpf.out
            refine bodyPost_ret (v := .agg #[.bool true, .slice ad L.length cp, .int .i64 v7, .int .u64 fm, .int .u64 tw, .slice ad5 PP.length cp5]) (results_cell_row rfl _ _ q1 26 #[.bool true, .slice ad L.length cp, .int .i64 v7, .int .u64 fm, .int .u64 tw, .slice ad5 PP.length cp5] (0, 0) _ rfl (hpg.box (i := 3) rfl) Tryd.underlying26 rfl thing6) rfl ⟨_, _, L, PP, v7, fm, tw, rfl, hL10.out, hPl.out, hri.out, ?_⟩
            exact ((hpg.drop 2).drop 2).drop 2
          | false =>
            go_upto_region 18 with fail
            have hp9 : Hp w [] [.row 3 1 (.slice ad L.length cp) L.length (inC L), .row 75 4 (.slice ad5 PP.length cp5) PP.length (prC PP), .box q2 #[.bool false, .slice ad L.length cp, .int .i64 0, .int .u64 0, .int .u64 0, .slice ad5 PP.length cp5] 26, .box q1 #[.bool false, .slice none 0 0, .int .i64 0, .int .u64 0, .int .u64 0, .slice none 0 0] 26, .box q0 #[.bool false, la, .int .i64 ty, .int .u64 fm, .int .u64 tw, pr] 26] _ := hp.out
            clear hp c0 c2 c3 c4 m2 m3 m4 f2 f3 f4
            have u0 := hp9.cell (i := 2) rfl 0; have u1 := hp9.cell (i := 2) rfl 1; have u2 := hp9.cell (i := 2) rfl 2; have u3 := hp9.cell (i := 2) rfl 3; have u4 := hp9.cell (i := 2) rfl 4; have u5 := hp9.cell (i := 2) rfl 5
            have r0 := hp9.cell (i := 3) rfl 0; have r1 := hp9.cell (i := 3) rfl 1; have r2 := hp9.cell (i := 3) rfl 2; have r3 := hp9.cell (i := 3) rfl 3; have r4 := hp9.cell (i := 3) rfl 4; have r5 := hp9.cell (i := 3) rfl 5
            have f0 := hp9.free (i := 3) rfl 0; have f1 := hp9.free (i := 3) rfl 1; have f2 := hp9.free (i := 3) rfl 2; have f3 := hp9.free (i := 3) rfl 3; have f4 := hp9.free (i := 3) rfl 4; have f5 := hp9.free (i := 3) rfl 5
            replace hp9 := Lib.hid hp9
            generalize wc = W9 at hp9 u0 u1 u2 u3 u4 u5 r0 r1 r2 r3 r4 r5 f0 f1 f2 f3 f4 f5 ⊢
            simp at u0 u1 u2 u3 u4 u5 r0 r1 r2 r3 r4 r5
            have hpf := Lib.hid ((((((hp9.out.put (i := 3) rfl 0 (.bool false)).put (i := 3) rfl 1 (.slice ad L.length cp)).put (i := 3) rfl 2 (.int .i64 0)).put (i := 3) rfl 3 (.int .u64 0)).put (i := 3) rfl 4 (.int .u64 0)).put (i := 3) rfl 5 (.slice ad5 PP.length cp5))
            clear hp9
            go_wp2
            have hpg := hpf.out
            refine bodyPost_ret (v := .agg #[.bool false, .slice ad L.length cp, .int .i64 0, .int .u64 0, .int .u64 0, .slice ad5 PP.length cp5]) (results_cell_row rfl _ _ q1 26 #[.bool false, .slice ad L.length cp, .int .i64 0, .int .u64 0, .int .u64 0, .slice ad5 PP.length cp5] (0, 0) _ rfl (hpg.box (i := 3) rfl) Tryd.underlying26 rfl thing6) rfl ⟨_, _, L, PP, 0, 0, 0, rfl, hL10.out, hPl.out, hri.out, ?_⟩
            exact ((hpg.drop 2).drop 2).drop 2
end Go.Proofs.YtcdgnhhciccoeaaDoor.recw
