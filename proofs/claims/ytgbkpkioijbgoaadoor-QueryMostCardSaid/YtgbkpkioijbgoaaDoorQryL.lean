/- So many edges, conditions and items a question has (QueryMost), given what the plain parser says of the texts that the statement makes. The tables are premises. -/
import Derived.Test.YtgbkpkioijbgoaaDoorQryA
import Derived.Test.YtgbkpkioijbgoaaDoorQryP
import Derived.Deep.CutBlock
namespace Go.Proofs.YtgbkpkioijbgoaaDoor.qry
open Go.RowKit
attribute [local go_sem ↓] Go.wp_at_zero Go.wp_at_succ
attribute [local go_sem] str_size str_bl
set_option linter.unusedVariables false
set_option linter.unusedSimpArgs false
set_option maxRecDepth 100000

/-- what the parser says of the texts -/
def MostP : Prop := ∀ a b c : Nat, a < 8 → b < 16 → c < 16 → errL (parseL (mostT a b c)) = (if isB a b c then 0 else 330) ∧ errL (parseL (mostT a b c ++ lim256T)) = (if isB a b c then 0 else 330) ∧ errL (parseL (mostT a b c ++ lim257T)) = 330
theorem err_any (l : List UInt8) (w : World) (hT : Tabs w) (hl : l.length ≤ 140737488355328) : Calls Tryd.prog 6 #[.string (str l)] w fun e w' => ∃ (x y z u : Option Addr) (nx ny nz nu cx cy cz cu : Nat) (n p : Int), e = .returned (.tuple #[.agg #[.slice x nx cx, .slice y ny cy, .slice z nz cz, .slice u nu cu, .int .i64 n], .int .i64 p, .int .i64 (errL (parseL l) : Int)]) ∧ Below w.heap.size w w' := by
  refine (parse_any l w hT hl).mono ?_
  intro e w' h
  unfold PRet QRet at h
  cases hr : parseL l with
  | inl q =>
    rw [hr] at h
    obtain ⟨v, rfl, N, nad, ead, cad, iad, ncp, ecp, ccp, icp, nrs, -, -, rfl, hp, -⟩ := h
    exact ⟨_, _, _, _, _, _, _, _, _, _, _, _, _, _, rfl, hp.bel⟩
  | inr x =>
    obtain ⟨p, n⟩ := x
    rw [hr] at h
    exact ⟨_, _, _, _, _, _, _, _, _, _, _, _, _, _, h.1, h.2⟩
theorem repT_len (t : List UInt8) : ∀ n, (repT t n).length = t.length * n
  | 0 => rfl
  | n + 1 => by rw [repT, List.length_append, repT_len t n, Nat.mul_succ]
theorem condsT_len : ∀ n, (condsT n).length ≤ 14 * n
  | 0 => Nat.le_refl _
  | n + 1 => by
    have := condsT_len n
    rw [condsT, List.length_append, List.length_append]
    have h1 : (if n = 0 then [32, 119, 104, 101, 114, 101] else [32, 97, 110, 100] : List UInt8).length ≤ 6 := by split <;> decide
    have h2 : ([32, 97, 46, 107, 32, 61, 32, 49] : List UInt8).length = 8 := rfl
    omega
theorem mostT_len (a b c : Nat) (ha : a < 8) (hb : b < 16) (hc : c < 16) : (mostT a b c).length ≤ 400 := by
  unfold mostT
  simp only [List.length_append, repT_len]
  have := condsT_len b
  have h2 : ([102, 105, 110, 100, 32, 40, 97, 41] : List UInt8).length = 8 := rfl
  have h3 : edgeT.length = 7 := rfl
  have h4 : ([32, 116, 101, 108, 108, 32, 97] : List UInt8).length = 7 := rfl
  have h5 : ([44, 97, 46, 107] : List UInt8).length = 4 := rfl
  rw [h3, h5]
  omega
theorem app3q (a b c : ByteArray) : (a ++ b) ++ c = a ++ (b ++ c) := by
  apply ByteArray.ext; simp [ByteArray.data_append, Array.append_assoc]
set_option maxHeartbeats 8000000 in
theorem queryMost_core (hM : MostP) (a0 a1 a2 : Int) (w : World) (hT : Tabs w) : Calls Tryd.prog 4 #[.int .i64 a0, .int .i64 a1, .int .i64 a2] w fun e w' => e = .returned (.bool true) ∧ Below w.heap.size w w' := by
  have ha0 : bits .and .i64 a0 7 = a0 % 8 := and_7 a0
  have hb0 : bits .and .i64 a1 15 = a1 % 16 := and_15 a1
  have hc0 : bits .and .i64 a2 15 = a2 % 16 := and_15 a2
  obtain ⟨a, ha⟩ : ∃ n : Nat, (n : Int) = a0 % 8 := ⟨(a0 % 8).toNat, by omega⟩
  obtain ⟨b, hb⟩ : ∃ n : Nat, (n : Int) = a1 % 16 := ⟨(a1 % 16).toNat, by omega⟩
  obtain ⟨c, hc⟩ : ∃ n : Nat, (n : Int) = a2 % 16 := ⟨(a2 % 16).toNat, by omega⟩
  have ha8 : a < 8 := by omega
  have hb16 : b < 16 := by omega
  have hc16 : c < 16 := by omega
  rw [← ha] at ha0
  rw [← hb] at hb0
  rw [← hc] at hc0
  clear ha hb hc
  obtain ⟨p1, p2, p3⟩ := hM a b c ha8 hb16 hc16
  have hml := mostT_len a b c ha8 hb16 hc16
  obtain ⟨MT, hMT⟩ : ∃ M, M = mostT a b c := ⟨_, rfl⟩
  rw [← hMT] at p1 p2 p3 hml
  have hl6 : lim256T.length = 10 := rfl
  have hl7 : lim257T.length = 10 := rfl
  have k1 := fun W (hT : Tabs W) => err_any MT W hT (by omega)
  have k2 := fun W (hT : Tabs W) => err_any (MT ++ lim256T) W hT (by rw [List.length_append]; omega)
  have k3 := fun W (hT : Tabs W) => err_any (MT ++ lim257T) W hT (by rw [List.length_append]; omega)
  have kA := fun W (hT : Tabs W) => awake_any W hT
  rw [p1] at k1
  rw [p2] at k2
  rw [p3] at k3
  clear p1 p2 p3 hl6 hl7
  have hbel := Below.refl w.heap.size w
  replace k1 := Lib.hid k1; replace k2 := Lib.hid k2; replace k3 := Lib.hid k3; replace kA := Lib.hid kA; replace hT := Lib.hid hT; replace hMT := Lib.hid hMT; replace hml := Lib.hid hml; replace hbel := Lib.hid hbel
  clear hM
  go_enter Tryd.func4, Tryd.ntmps4
  go_upto_block 0 with fail
  clear ha0 hb0 hc0
  go_cut [10, 11] from 30 to 36 (fun s10 s11 wx => s10 = .string (str ([102, 105, 110, 100, 32, 40, 97, 41] ++ repT edgeT a)) ∧ w = wx)
  case first =>
    clear k1 k2 k3 kA hMT hml
    go_wp2
    go_loopg [10, 11] a (fun kk s10 s11 wr => ∃ i : Nat, s11 = .int .i64 (i : Int) ∧ i + kk = a ∧ s10 = .string (str ([102, 105, 110, 100, 32, 40, 97, 41] ++ repT edgeT i)) ∧ w = wr)
    case atStart => exact ⟨0, rfl, by omega, rfl, rfl⟩
    case round =>
      obtain ⟨i, rfl, hik, rfl, rfl⟩ := hrel
      by_cases hlt : i < a
      · obtain ⟨K, rfl⟩ : ∃ K : Nat, gk = K + 1 := ⟨gk - 1, by omega⟩
        obtain ⟨T, hTt⟩ : ∃ T, T = [102, 105, 110, 100, 32, 40, 97, 41] ++ repT edgeT i := ⟨_, rfl⟩
        have hTl : T.length ≤ 100 := by rw [hTt, List.length_append, repT_len]; show 8 + 7 * i ≤ 100; omega
        obtain ⟨tl, htl⟩ : ∃ n, n = T.length := ⟨_, rfl⟩
        have hsz : (str T).size = tl := by rw [str_size, htl]
        rw [← htl] at hTl
        have hnx : str ([102, 105, 110, 100, 32, 40, 97, 41] ++ repT edgeT (i + 1)) = str T ++ ⟨#[45, 91, 93, 45, 62, 40, 41]⟩ := by rw [repT, ← List.append_assoc, ← hTt, ← str_append]; rfl
        rw [← hTt]
        obtain ⟨ST, hST⟩ : ∃ S, S = str T := ⟨_, rfl⟩
        rw [← hST] at hsz hnx ⊢
        have g1 : ¬9223372036854775807 < tl + 7 := by omega
        replace hnx := Lib.hid hnx
        clear hTt htl hST
        go_wp2
        go_roundg K
        case measure => omega
        case rel => exact ⟨i + 1, by go_num, by omega, by rw [hnx.out], rfl⟩
      · have hk0 : gk = 0 := by omega
        subst hk0
        obtain rfl : a = i := by omega
        go_wp2
        go_meet
        exact ⟨rfl, rfl⟩
  case rest =>
    obtain ⟨rfl, rfl⟩ := hcut
    go_upto_block 2 with fail
    go_cut [10, 12] from 37 to 49 (fun s10 s12 wx => s10 = .string (str (([102, 105, 110, 100, 32, 40, 97, 41] ++ repT edgeT a) ++ condsT b)) ∧ w = wx)
    case first =>
      clear k1 k2 k3 kA hMT hml
      obtain ⟨T0, hT0⟩ : ∃ T, T = [102, 105, 110, 100, 32, 40, 97, 41] ++ repT edgeT a := ⟨_, rfl⟩
      have hT0l : T0.length ≤ 100 := by rw [hT0, List.length_append, repT_len]; show 8 + 7 * a ≤ 100; omega
      rw [← hT0]
      replace hT0l := Lib.hid hT0l; replace hT0 := Lib.hid hT0
      go_wp2
      go_loopg [10, 12] b (fun kk s10 s12 wr => ∃ i : Nat, s12 = .int .i64 (i : Int) ∧ i + kk = b ∧ s10 = .string (str (T0 ++ condsT i)) ∧ w = wr)
      case atStart => exact ⟨0, rfl, by omega, by rw [condsT, List.append_nil], rfl⟩
      case round =>
        obtain ⟨i, rfl, hik, rfl, rfl⟩ := hrel
        by_cases hlt : i < b
        · obtain ⟨K, rfl⟩ : ∃ K : Nat, gk = K + 1 := ⟨gk - 1, by omega⟩
          obtain ⟨T, hTt⟩ : ∃ T, T = T0 ++ condsT i := ⟨_, rfl⟩
          have hTl : T.length ≤ 400 := by rw [hTt, List.length_append]; have := hT0l.out; have := condsT_len i; omega
          obtain ⟨tl, htl⟩ : ∃ n, n = T.length := ⟨_, rfl⟩
          have hsz : (str T).size = tl := by rw [str_size, htl]
          rw [← htl] at hTl
          have hnx : str (T0 ++ condsT (i + 1)) = str T ++ (str (if i = 0 then [32, 119, 104, 101, 114, 101] else [32, 97, 110, 100]) ++ str [32, 97, 46, 107, 32, 61, 32, 49]) := by rw [condsT, ← List.append_assoc, ← hTt, str_append, str_append]
          rw [← hTt]
          obtain ⟨ST, hST⟩ : ∃ S, S = str T := ⟨_, rfl⟩
          rw [← hST] at hsz hnx ⊢
          clear hTt htl hST
          by_cases hi0 : i = 0
          · have hnx2 : str (T0 ++ condsT (i + 1)) = (ST ++ ⟨#[32, 119, 104, 101, 114, 101]⟩) ++ ⟨#[32, 97, 46, 107, 32, 61, 32, 49]⟩ := by rw [hnx, if_pos hi0, app3q]; rfl
            have hi2 : ((i : Int) == 0) = true := by rw [hi0]; rfl
            have g1 : ¬9223372036854775807 < tl + 6 := by omega
            have g2 : ¬9223372036854775807 < tl + 6 + 8 := by omega
            replace hnx2 := Lib.hid hnx2; replace hi0 := Lib.hid hi0
            clear hnx
            go_wp2
            go_roundg K
            case measure => omega
            case rel => exact ⟨i + 1, by go_num, by omega, by rw [hnx2.out], rfl⟩
          · have hnx2 : str (T0 ++ condsT (i + 1)) = (ST ++ ⟨#[32, 97, 110, 100]⟩) ++ ⟨#[32, 97, 46, 107, 32, 61, 32, 49]⟩ := by rw [hnx, if_neg hi0, app3q]; rfl
            have hi2 : ((i : Int) == 0) = false := by rw [beq_eq_false_iff_ne]; omega
            have g1 : ¬9223372036854775807 < tl + 4 := by omega
            have g2 : ¬9223372036854775807 < tl + 4 + 8 := by omega
            replace hnx2 := Lib.hid hnx2; replace hi0 := Lib.hid hi0
            clear hnx
            go_wp2
            go_roundg K
            case measure => omega
            case rel => exact ⟨i + 1, by go_num, by omega, by rw [hnx2.out], rfl⟩
        · have hk0 : gk = 0 := by omega
          subst hk0
          obtain rfl : b = i := by omega
          have hT0e := hT0.out
          go_wp2
          go_meet
          exact ⟨by rw [hT0e], rfl⟩
    case rest =>
      obtain ⟨rfl, rfl⟩ := hcut
      obtain ⟨T1, hT1⟩ : ∃ T, T = ([102, 105, 110, 100, 32, 40, 97, 41] ++ repT edgeT a) ++ condsT b := ⟨_, rfl⟩
      have hT1l : T1.length ≤ 400 := by rw [hT1, List.length_append, List.length_append, repT_len]; have := condsT_len b; show 8 + 7 * a + (condsT b).length ≤ 400; omega
      have hMT2 : MT = (T1 ++ [32, 116, 101, 108, 108, 32, 97]) ++ repT [44, 97, 46, 107] c := by rw [hMT.out, hT1]; rfl
      rw [← hT1]
      clear hT1 hMT
      obtain ⟨tl1, htl1⟩ : ∃ n, n = T1.length := ⟨_, rfl⟩
      have hsz1 : (str T1).size = tl1 := by rw [str_size, htl1]
      rw [← htl1] at hT1l
      have hs2 : str (T1 ++ [32, 116, 101, 108, 108, 32, 97]) = str T1 ++ ⟨#[32, 116, 101, 108, 108, 32, 97]⟩ := by rw [← str_append]; rfl
      obtain ⟨T2, hT2⟩ : ∃ T, T = T1 ++ [32, 116, 101, 108, 108, 32, 97] := ⟨_, rfl⟩
      have hT2l : T2.length = tl1 + 7 := by rw [hT2, List.length_append, ← htl1]; rfl
      rw [← hT2] at hs2 hMT2
      clear hT2 htl1
      obtain ⟨ST1, hST1⟩ : ∃ S, S = str T1 := ⟨_, rfl⟩
      rw [← hST1] at hsz1 hs2 ⊢
      have g1 : ¬9223372036854775807 < tl1 + 7 := by omega
      replace hs2 := Lib.hid hs2; replace hMT2 := Lib.hid hMT2; replace hT2l := Lib.hid hT2l
      clear hST1
      go_upto_block 4 with fail
      rw [← hs2.out]
      clear hs2 hsz1 g1
      go_cut [10, 13] from 52 to 58 (fun s10 s13 wx => s10 = .string (str MT) ∧ w = wx)
      case first =>
        clear k1 k2 k3 kA hml
        go_wp2
        go_loopg [10, 13] c (fun kk s10 s13 wr => ∃ i : Nat, s13 = .int .i64 (i : Int) ∧ i + kk = c ∧ s10 = .string (str (T2 ++ repT [44, 97, 46, 107] i)) ∧ w = wr)
        case atStart => exact ⟨0, rfl, by omega, by rw [repT, List.append_nil], rfl⟩
        case round =>
          obtain ⟨i, rfl, hik, rfl, rfl⟩ := hrel
          by_cases hlt : i < c
          · obtain ⟨K, rfl⟩ : ∃ K : Nat, gk = K + 1 := ⟨gk - 1, by omega⟩
            obtain ⟨T, hTt⟩ : ∃ T, T = T2 ++ repT [44, 97, 46, 107] i := ⟨_, rfl⟩
            have hTl : T.length ≤ 500 := by rw [hTt, List.length_append, repT_len, hT2l.out]; show tl1 + 7 + 4 * i ≤ 500; omega
            obtain ⟨tl, htl⟩ : ∃ n, n = T.length := ⟨_, rfl⟩
            have hsz : (str T).size = tl := by rw [str_size, htl]
            rw [← htl] at hTl
            have hnx : str (T2 ++ repT [44, 97, 46, 107] (i + 1)) = str T ++ ⟨#[44, 97, 46, 107]⟩ := by rw [repT, ← List.append_assoc, ← hTt, ← str_append]; rfl
            rw [← hTt]
            obtain ⟨ST, hST⟩ : ∃ S, S = str T := ⟨_, rfl⟩
            rw [← hST] at hsz hnx ⊢
            have g1 : ¬9223372036854775807 < tl + 4 := by omega
            replace hnx := Lib.hid hnx
            clear hTt htl hST
            go_wp2
            go_roundg K
            case measure => omega
            case rel => exact ⟨i + 1, by go_num, by omega, by rw [hnx.out], rfl⟩
          · have hk0 : gk = 0 := by omega
            subst hk0
            obtain rfl : c = i := by omega
            have hfin := hMT2.out
            go_wp2
            go_meet
            exact ⟨by rw [hfin], rfl⟩
      case rest =>
        obtain ⟨rfl, rfl⟩ := hcut
        clear hMT2 hT2l hT1l
        obtain ⟨tl, htl⟩ : ∃ n, n = MT.length := ⟨_, rfl⟩
        have hml2 := hml.out
        rw [← htl] at hml2
        have hsz : (str MT).size = tl := by rw [str_size, htl]
        have e6 : str (MT ++ lim256T) = str MT ++ ⟨#[32, 108, 105, 109, 105, 116, 32, 50, 53, 54]⟩ := by rw [← str_append]; rfl
        have e7 : str (MT ++ lim257T) = str MT ++ ⟨#[32, 108, 105, 109, 105, 116, 32, 50, 53, 55]⟩ := by rw [← str_append]; rfl
        have j2 := k2.out
        have j3 := k3.out
        have j1 := k1.out
        rw [e6] at j2
        rw [e7] at j3
        clear k1 k2 k3 e6 e7 htl hml
        obtain ⟨ST, hST⟩ : ∃ S, S = str MT := ⟨_, rfl⟩
        rw [← hST] at j1 j2 j3 hsz ⊢
        clear hST
        have g1 : ¬9223372036854775807 < tl + 10 := by omega
        have hcs : (isB a b c = true ∧ a ≤ 6 ∧ b ≤ 8 ∧ c + 1 ≤ 8) ∨ (isB a b c = false ∧ ¬ a ≤ 6) ∨ (isB a b c = false ∧ a ≤ 6 ∧ ¬ b ≤ 8) ∨ (isB a b c = false ∧ a ≤ 6 ∧ b ≤ 8 ∧ ¬ c + 1 ≤ 8) := by
          unfold isB
          by_cases h1 : a ≤ 6
          · by_cases h2 : b ≤ 8
            · by_cases h3 : c + 1 ≤ 8
              · exact Or.inl ⟨by simp [h1, h2, h3], h1, h2, h3⟩
              · exact Or.inr (Or.inr (Or.inr ⟨by simp [h1, h2, h3], h1, h2, h3⟩))
            · exact Or.inr (Or.inr (Or.inl ⟨by simp [h1, h2], h1, h2⟩))
          · exact Or.inr (Or.inl ⟨by simp [h1], h1⟩)
        rcases hcs with ⟨hi, h1, h2, h3⟩ | ⟨hi, h1⟩ | ⟨hi, h1, h2⟩ | ⟨hi, h1, h2, h3⟩
        · rw [hi] at j1 j2
          simp only [if_true, Bool.false_eq_true, if_false] at j1 j2
          have f1 : (a : Int) ≤ 6 := by omega
          have f2 : (b : Int) ≤ 8 := by omega
          have f3 : (c : Int) + 1 ≤ 8 := by omega
          have i1 : IntKind.i64.wrap ((c : Int) + 1) = (c : Int) + 1 := IntWalk.i64_in _ (by omega)
          replace j1 := Lib.hid j1; replace j2 := Lib.hid j2; replace j3 := Lib.hid j3
          clear hi h1 h2 h3
          go_upto_region 20 with (go_at_call 6; (with_reducible refine (j1.out _ (hT.out.below hbel.out)).mono ?_); rintro e v1 ⟨qa1, qb1, qc1, qd1, na1, nb1, nc1, nd1, ca1, cb1, cc1, cd1, ql1, qp1, rfl, b1⟩; replace hbel := Lib.hid (belowCont hbel.out b1); clear b1)
          replace hbel := Lib.hid (hbel.out.alloc hbel.out.size (.cells #[.slice qa1 na1 ca1, .slice qb1 nb1 cb1, .slice qc1 nc1 cc1, .slice qd1 nd1 cd1, .int .i64 ql1] 27))
          generalize v1.alloc _ = x1 at hbel ⊢
          go_upto_region 21 with (go_at_call 6; (with_reducible refine (j2.out _ (hT.out.below hbel.out)).mono ?_); rintro e v2 ⟨qa2, qb2, qc2, qd2, na2, nb2, nc2, nd2, ca2, cb2, cc2, cd2, ql2, qp2, rfl, b2⟩; replace hbel := Lib.hid (belowCont hbel.out b2); clear b2)
          replace hbel := Lib.hid (hbel.out.alloc hbel.out.size (.cells #[.slice qa2 na2 ca2, .slice qb2 nb2 cb2, .slice qc2 nc2 cc2, .slice qd2 nd2 cd2, .int .i64 ql2] 27))
          generalize v2.alloc _ = x2 at hbel ⊢
          go_upto_region 22 with (go_at_call 6; (with_reducible refine (j3.out _ (hT.out.below hbel.out)).mono ?_); rintro e v3 ⟨qa3, qb3, qc3, qd3, na3, nb3, nc3, nd3, ca3, cb3, cc3, cd3, ql3, qp3, rfl, b3⟩; replace hbel := Lib.hid (belowCont hbel.out b3); clear b3)
          replace hbel := Lib.hid (hbel.out.alloc hbel.out.size (.cells #[.slice qa3 na3 ca3, .slice qb3 nb3 cb3, .slice qc3 nc3 cc3, .slice qd3 nd3 cd3, .int .i64 ql3] 27))
          generalize v3.alloc _ = x3 at hbel ⊢
          go_wp2_with (go_at_call 8; (with_reducible refine (kA.out _ (hT.out.below hbel.out)).mono ?_); rintro e v4 ⟨rfl, b4⟩; replace hbel := Lib.hid (belowCont hbel.out b4); clear b4)
          go_ret
          exact ⟨rfl, hbel.out⟩
        · rw [hi] at j1 j2
          simp only [if_true, Bool.false_eq_true, if_false] at j1 j2
          have f1 : ¬ (a : Int) ≤ 6 := by omega
          replace j1 := Lib.hid j1; replace j2 := Lib.hid j2; replace j3 := Lib.hid j3
          clear hi h1
          go_upto_region 20 with (go_at_call 6; (with_reducible refine (j1.out _ (hT.out.below hbel.out)).mono ?_); rintro e v1 ⟨qa1, qb1, qc1, qd1, na1, nb1, nc1, nd1, ca1, cb1, cc1, cd1, ql1, qp1, rfl, b1⟩; replace hbel := Lib.hid (belowCont hbel.out b1); clear b1)
          replace hbel := Lib.hid (hbel.out.alloc hbel.out.size (.cells #[.slice qa1 na1 ca1, .slice qb1 nb1 cb1, .slice qc1 nc1 cc1, .slice qd1 nd1 cd1, .int .i64 ql1] 27))
          generalize v1.alloc _ = x1 at hbel ⊢
          go_upto_region 21 with (go_at_call 6; (with_reducible refine (j2.out _ (hT.out.below hbel.out)).mono ?_); rintro e v2 ⟨qa2, qb2, qc2, qd2, na2, nb2, nc2, nd2, ca2, cb2, cc2, cd2, ql2, qp2, rfl, b2⟩; replace hbel := Lib.hid (belowCont hbel.out b2); clear b2)
          replace hbel := Lib.hid (hbel.out.alloc hbel.out.size (.cells #[.slice qa2 na2 ca2, .slice qb2 nb2 cb2, .slice qc2 nc2 cc2, .slice qd2 nd2 cd2, .int .i64 ql2] 27))
          generalize v2.alloc _ = x2 at hbel ⊢
          go_upto_region 22 with (go_at_call 6; (with_reducible refine (j3.out _ (hT.out.below hbel.out)).mono ?_); rintro e v3 ⟨qa3, qb3, qc3, qd3, na3, nb3, nc3, nd3, ca3, cb3, cc3, cd3, ql3, qp3, rfl, b3⟩; replace hbel := Lib.hid (belowCont hbel.out b3); clear b3)
          replace hbel := Lib.hid (hbel.out.alloc hbel.out.size (.cells #[.slice qa3 na3 ca3, .slice qb3 nb3 cb3, .slice qc3 nc3 cc3, .slice qd3 nd3 cd3, .int .i64 ql3] 27))
          generalize v3.alloc _ = x3 at hbel ⊢
          go_wp2_with (go_at_call 8; (with_reducible refine (kA.out _ (hT.out.below hbel.out)).mono ?_); rintro e v4 ⟨rfl, b4⟩; replace hbel := Lib.hid (belowCont hbel.out b4); clear b4)
          go_ret
          exact ⟨rfl, hbel.out⟩
        · rw [hi] at j1 j2
          simp only [if_true, Bool.false_eq_true, if_false] at j1 j2
          have f1 : (a : Int) ≤ 6 := by omega
          have f2 : ¬ (b : Int) ≤ 8 := by omega
          replace j1 := Lib.hid j1; replace j2 := Lib.hid j2; replace j3 := Lib.hid j3
          clear hi h1 h2
          go_upto_region 20 with (go_at_call 6; (with_reducible refine (j1.out _ (hT.out.below hbel.out)).mono ?_); rintro e v1 ⟨qa1, qb1, qc1, qd1, na1, nb1, nc1, nd1, ca1, cb1, cc1, cd1, ql1, qp1, rfl, b1⟩; replace hbel := Lib.hid (belowCont hbel.out b1); clear b1)
          replace hbel := Lib.hid (hbel.out.alloc hbel.out.size (.cells #[.slice qa1 na1 ca1, .slice qb1 nb1 cb1, .slice qc1 nc1 cc1, .slice qd1 nd1 cd1, .int .i64 ql1] 27))
          generalize v1.alloc _ = x1 at hbel ⊢
          go_upto_region 21 with (go_at_call 6; (with_reducible refine (j2.out _ (hT.out.below hbel.out)).mono ?_); rintro e v2 ⟨qa2, qb2, qc2, qd2, na2, nb2, nc2, nd2, ca2, cb2, cc2, cd2, ql2, qp2, rfl, b2⟩; replace hbel := Lib.hid (belowCont hbel.out b2); clear b2)
          replace hbel := Lib.hid (hbel.out.alloc hbel.out.size (.cells #[.slice qa2 na2 ca2, .slice qb2 nb2 cb2, .slice qc2 nc2 cc2, .slice qd2 nd2 cd2, .int .i64 ql2] 27))
          generalize v2.alloc _ = x2 at hbel ⊢
          go_upto_region 22 with (go_at_call 6; (with_reducible refine (j3.out _ (hT.out.below hbel.out)).mono ?_); rintro e v3 ⟨qa3, qb3, qc3, qd3, na3, nb3, nc3, nd3, ca3, cb3, cc3, cd3, ql3, qp3, rfl, b3⟩; replace hbel := Lib.hid (belowCont hbel.out b3); clear b3)
          replace hbel := Lib.hid (hbel.out.alloc hbel.out.size (.cells #[.slice qa3 na3 ca3, .slice qb3 nb3 cb3, .slice qc3 nc3 cc3, .slice qd3 nd3 cd3, .int .i64 ql3] 27))
          generalize v3.alloc _ = x3 at hbel ⊢
          go_wp2_with (go_at_call 8; (with_reducible refine (kA.out _ (hT.out.below hbel.out)).mono ?_); rintro e v4 ⟨rfl, b4⟩; replace hbel := Lib.hid (belowCont hbel.out b4); clear b4)
          go_ret
          exact ⟨rfl, hbel.out⟩
        · rw [hi] at j1 j2
          simp only [if_true, Bool.false_eq_true, if_false] at j1 j2
          have f1 : (a : Int) ≤ 6 := by omega
          have f2 : (b : Int) ≤ 8 := by omega
          have f3 : ¬ (c : Int) + 1 ≤ 8 := by omega
          have i1 : IntKind.i64.wrap ((c : Int) + 1) = (c : Int) + 1 := IntWalk.i64_in _ (by omega)
          replace j1 := Lib.hid j1; replace j2 := Lib.hid j2; replace j3 := Lib.hid j3
          clear hi h1 h2 h3
          go_upto_region 20 with (go_at_call 6; (with_reducible refine (j1.out _ (hT.out.below hbel.out)).mono ?_); rintro e v1 ⟨qa1, qb1, qc1, qd1, na1, nb1, nc1, nd1, ca1, cb1, cc1, cd1, ql1, qp1, rfl, b1⟩; replace hbel := Lib.hid (belowCont hbel.out b1); clear b1)
          replace hbel := Lib.hid (hbel.out.alloc hbel.out.size (.cells #[.slice qa1 na1 ca1, .slice qb1 nb1 cb1, .slice qc1 nc1 cc1, .slice qd1 nd1 cd1, .int .i64 ql1] 27))
          generalize v1.alloc _ = x1 at hbel ⊢
          go_upto_region 21 with (go_at_call 6; (with_reducible refine (j2.out _ (hT.out.below hbel.out)).mono ?_); rintro e v2 ⟨qa2, qb2, qc2, qd2, na2, nb2, nc2, nd2, ca2, cb2, cc2, cd2, ql2, qp2, rfl, b2⟩; replace hbel := Lib.hid (belowCont hbel.out b2); clear b2)
          replace hbel := Lib.hid (hbel.out.alloc hbel.out.size (.cells #[.slice qa2 na2 ca2, .slice qb2 nb2 cb2, .slice qc2 nc2 cc2, .slice qd2 nd2 cd2, .int .i64 ql2] 27))
          generalize v2.alloc _ = x2 at hbel ⊢
          go_upto_region 22 with (go_at_call 6; (with_reducible refine (j3.out _ (hT.out.below hbel.out)).mono ?_); rintro e v3 ⟨qa3, qb3, qc3, qd3, na3, nb3, nc3, nd3, ca3, cb3, cc3, cd3, ql3, qp3, rfl, b3⟩; replace hbel := Lib.hid (belowCont hbel.out b3); clear b3)
          replace hbel := Lib.hid (hbel.out.alloc hbel.out.size (.cells #[.slice qa3 na3 ca3, .slice qb3 nb3 cb3, .slice qc3 nc3 cc3, .slice qd3 nd3 cd3, .int .i64 ql3] 27))
          generalize v3.alloc _ = x3 at hbel ⊢
          go_wp2_with (go_at_call 8; (with_reducible refine (kA.out _ (hT.out.below hbel.out)).mono ?_); rintro e v4 ⟨rfl, b4⟩; replace hbel := Lib.hid (belowCont hbel.out b4); clear b4)
          go_ret
          exact ⟨by first | rfl | simp [f3], hbel.out⟩
end Go.Proofs.YtgbkpkioijbgoaaDoor.qry
