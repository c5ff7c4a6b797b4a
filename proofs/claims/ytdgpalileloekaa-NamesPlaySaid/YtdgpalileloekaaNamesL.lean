/- The law's own test of names; NamesGet: whatever bytes come: they are names, that have these bytes, or the error. No condition. -/
import Derived.Test.YtdgpalileloekaaNamesM
import Derived.Test.YtdgpalileloekaaRegSeq
import Derived.Test.YtdgpalileloekaaArgs
import Derived.Test.YtdgpalileloekaaBytes2
import Derived.Deep.DeepCutAuto
namespace Go.Proofs.Ytdgpalileloekaa.names
open Go.RowKit
open code (numL textL)
attribute [local go_sem ↓] Go.wp_at_zero Go.wp_at_succ
attribute [local go_sem] str_size str_bl str_append
set_option linter.unusedVariables false
set_option maxRecDepth 100000

theorem lmay_any (s : Nm) (hl : s.length ≤ 140737488355328) (w : World) : Calls Try.prog 23 #[.string (str s)] w fun e w' => e = .returned (.bool (mayN s)) ∧ w' = w := by
  obtain ⟨n, hln⟩ : ∃ n, n = s.length := ⟨_, rfl⟩
  have hsz : (str s).size = n := by rw [str_size, hln]
  obtain ⟨S, hS⟩ : ∃ S, S = str s := ⟨_, rfl⟩
  obtain ⟨r, hr⟩ : ∃ r, r = mayN s := ⟨_, rfl⟩
  rw [← hS] at hsz ⊢
  rw [← hr]
  replace hr := Lib.hid hr
  have hl2 : n ≤ 140737488355328 := by omega
  clear hl
  replace hln := Lib.hid hln; replace hS := Lib.hid hS
  go_enter Try.func23, Try.ntmps23
  go_wp2
  go_loop [3] (fun s3 => ∃ i : Nat, s3 = .int .i64 (i : Int) ∧ i ≤ n ∧ ∀ j, j < i → okAt s j = true) (fun s3 => n - (intOf s3).toNat)
  case atStart => exact ⟨0, rfl, by omega, fun j h => by omega⟩
  case round =>
    obtain ⟨i, rfl, hi, hok⟩ := hrel
    by_cases hlt : i < n
    · obtain ⟨c, hc⟩ : ∃ c, s[i]? = some c := ⟨_, List.getElem?_eq_getElem (by have := hln.out; omega)⟩
      have hce : ∀ h : i < S.size, S[i]'h = c := by have h := hS.out; subst h; exact at_str s i c hc
      have hD : s.getD i 0 = c := by rw [List.getD_eq_getElem?_getD, hc]; rfl
      have hA : okAt s i = okC c.toNat (decide (i = 0)) := by unfold okAt; rw [hD]
      have hc256 := c.toNat_lt
      have e1 : (0 : Int) ≤ (i : Int) := by omega
      have e2 : (i : Int) < (n : Int) := by omega
      have e3 : ¬ (n : Int) ≤ (i : Int) := by omega
      unfold okC at hA
      replace hok := Lib.hid hok
      clear hc hD
      have hcase : (c.toNat < 48) ∨ (48 ≤ c.toNat ∧ c.toNat ≤ 57) ∨ (58 ≤ c.toNat ∧ c.toNat ≤ 64) ∨ (65 ≤ c.toNat ∧ c.toNat ≤ 90) ∨ (91 ≤ c.toNat ∧ c.toNat ≤ 94) ∨ (c.toNat = 95) ∨ (c.toNat = 96) ∨ (97 ≤ c.toNat ∧ c.toNat ≤ 122) ∨ (123 ≤ c.toNat) := by omega
      rcases hcase with h | h | h | h | h | h | h | h | h
      · skip
        have q1 : ¬ ((97 : Int) ≤ (c.toNat : Int)) := by omega
        have q2 : ¬ ((65 : Int) ≤ (c.toNat : Int)) := by omega
        have q3 : ((c.toNat : Int) == 95) = false := by simp; omega
        have q4 : ¬ ((48 : Int) ≤ (c.toNat : Int)) := by omega
        have hv : okAt s i = false := by rw [hA]; simp; omega
        have hR : r = false := by rw [hr.out]; exact mayN_no i (by have := hln.out; omega) hv
        subst hR
        clear h hA hc256 hv
        go_wp2
        go_ret
        exact ⟨rfl, rfl⟩
      · skip
        have q1 : ¬ ((97 : Int) ≤ (c.toNat : Int)) := by omega
        have q2 : ¬ ((65 : Int) ≤ (c.toNat : Int)) := by omega
        have q3 : ((c.toNat : Int) == 95) = false := by simp; omega
        have q4 : (48 : Int) ≤ (c.toNat : Int) := by omega
        have q4b : (c.toNat : Int) ≤ 57 := by omega
        by_cases h0 : i = 0
        · subst h0
          have hv : okAt s 0 = false := by rw [hA]; simp; omega
          have hR : r = false := by rw [hr.out]; exact mayN_no 0 (by have := hln.out; omega) hv
          subst hR
          clear h hA hc256 hv
          go_wp2
          go_ret
          exact ⟨rfl, rfl⟩
        · have q5 : (0 : Int) < (i : Int) := by omega
          have q6 : 0 < i := by omega
          have hv : okAt s i = true := by rw [hA]; simp; omega
          replace hv := Lib.hid hv
          clear h hA hc256
          go_wp2
          go_round
          case rel => exact ⟨i + 1, by go_num, by omega, fun j hj => by by_cases e : j = i; (subst e; exact hv.out); exact hok.out j (by omega)⟩
          case measure => simp [intOf]; omega
      · skip
        have q1 : ¬ ((97 : Int) ≤ (c.toNat : Int)) := by omega
        have q2 : ¬ ((65 : Int) ≤ (c.toNat : Int)) := by omega
        have q3 : ((c.toNat : Int) == 95) = false := by simp; omega
        have q4 : (48 : Int) ≤ (c.toNat : Int) := by omega
        have q4b : ¬ ((c.toNat : Int) ≤ 57) := by omega
        have hv : okAt s i = false := by rw [hA]; simp; omega
        have hR : r = false := by rw [hr.out]; exact mayN_no i (by have := hln.out; omega) hv
        subst hR
        clear h hA hc256 hv
        go_wp2
        go_ret
        exact ⟨rfl, rfl⟩
      · skip
        have q1 : ¬ ((97 : Int) ≤ (c.toNat : Int)) := by omega
        have q2 : (65 : Int) ≤ (c.toNat : Int) := by omega
        have q2b : (c.toNat : Int) ≤ 90 := by omega
        have q3 : ((c.toNat : Int) == 95) = false := by simp; omega
        have q4 : (48 : Int) ≤ (c.toNat : Int) := by omega
        have q4b : ¬ ((c.toNat : Int) ≤ 57) := by omega
        have hv : okAt s i = true := by rw [hA]; simp; omega
        replace hv := Lib.hid hv
        clear h hA hc256
        go_wp2
        go_round
        case rel => exact ⟨i + 1, by go_num, by omega, fun j hj => by by_cases e : j = i; (subst e; exact hv.out); exact hok.out j (by omega)⟩
        case measure => simp [intOf]; omega
      · skip
        have q1 : ¬ ((97 : Int) ≤ (c.toNat : Int)) := by omega
        have q2 : (65 : Int) ≤ (c.toNat : Int) := by omega
        have q2b : ¬ ((c.toNat : Int) ≤ 90) := by omega
        have q3 : ((c.toNat : Int) == 95) = false := by simp; omega
        have q4 : (48 : Int) ≤ (c.toNat : Int) := by omega
        have q4b : ¬ ((c.toNat : Int) ≤ 57) := by omega
        have hv : okAt s i = false := by rw [hA]; simp; omega
        have hR : r = false := by rw [hr.out]; exact mayN_no i (by have := hln.out; omega) hv
        subst hR
        clear h hA hc256 hv
        go_wp2
        go_ret
        exact ⟨rfl, rfl⟩
      · skip
        have q1 : ¬ ((97 : Int) ≤ (c.toNat : Int)) := by omega
        have q2 : (65 : Int) ≤ (c.toNat : Int) := by omega
        have q2b : ¬ ((c.toNat : Int) ≤ 90) := by omega
        have q3 : ((c.toNat : Int) == 95) = true := by simp; omega
        have q4 : (48 : Int) ≤ (c.toNat : Int) := by omega
        have q4b : ¬ ((c.toNat : Int) ≤ 57) := by omega
        have hv : okAt s i = true := by rw [hA]; simp; omega
        replace hv := Lib.hid hv
        clear h hA hc256
        go_wp2
        go_round
        case rel => exact ⟨i + 1, by go_num, by omega, fun j hj => by by_cases e : j = i; (subst e; exact hv.out); exact hok.out j (by omega)⟩
        case measure => simp [intOf]; omega
      · skip
        have q1 : ¬ ((97 : Int) ≤ (c.toNat : Int)) := by omega
        have q2 : (65 : Int) ≤ (c.toNat : Int) := by omega
        have q2b : ¬ ((c.toNat : Int) ≤ 90) := by omega
        have q3 : ((c.toNat : Int) == 95) = false := by simp; omega
        have q4 : (48 : Int) ≤ (c.toNat : Int) := by omega
        have q4b : ¬ ((c.toNat : Int) ≤ 57) := by omega
        have hv : okAt s i = false := by rw [hA]; simp; omega
        have hR : r = false := by rw [hr.out]; exact mayN_no i (by have := hln.out; omega) hv
        subst hR
        clear h hA hc256 hv
        go_wp2
        go_ret
        exact ⟨rfl, rfl⟩
      · skip
        have q1 : (97 : Int) ≤ (c.toNat : Int) := by omega
        have q1b : (c.toNat : Int) ≤ 122 := by omega
        have q2 : (65 : Int) ≤ (c.toNat : Int) := by omega
        have q2b : ¬ ((c.toNat : Int) ≤ 90) := by omega
        have q3 : ((c.toNat : Int) == 95) = false := by simp; omega
        have q4 : (48 : Int) ≤ (c.toNat : Int) := by omega
        have q4b : ¬ ((c.toNat : Int) ≤ 57) := by omega
        have hv : okAt s i = true := by rw [hA]; simp; omega
        replace hv := Lib.hid hv
        clear h hA hc256
        go_wp2
        go_round
        case rel => exact ⟨i + 1, by go_num, by omega, fun j hj => by by_cases e : j = i; (subst e; exact hv.out); exact hok.out j (by omega)⟩
        case measure => simp [intOf]; omega
      · skip
        have q1 : (97 : Int) ≤ (c.toNat : Int) := by omega
        have q1b : ¬ ((c.toNat : Int) ≤ 122) := by omega
        have q2 : (65 : Int) ≤ (c.toNat : Int) := by omega
        have q2b : ¬ ((c.toNat : Int) ≤ 90) := by omega
        have q3 : ((c.toNat : Int) == 95) = false := by simp; omega
        have q4 : (48 : Int) ≤ (c.toNat : Int) := by omega
        have q4b : ¬ ((c.toNat : Int) ≤ 57) := by omega
        have hv : okAt s i = false := by rw [hA]; simp; omega
        have hR : r = false := by rw [hr.out]; exact mayN_no i (by have := hln.out; omega) hv
        subst hR
        clear h hA hc256 hv
        go_wp2
        go_ret
        exact ⟨rfl, rfl⟩
    · obtain rfl : i = n := by omega
      have hall : ∀ j, j < s.length → okAt s j = true := fun j hj => hok j (by have := hln.out; omega)
      by_cases h1 : 1 ≤ i
      · have h1' : (1 : Int) ≤ (i : Int) := by omega
        by_cases h2 : i ≤ 20
        · have h2' : (i : Int) ≤ 20 := by omega
          obtain rfl : r = true := by rw [hr.out]; exact mayN_all (by have := hln.out; omega) (by have := hln.out; omega) hall
          clear hall hok
          go_wp2
          go_ret
          exact ⟨rfl, rfl⟩
        · have h2' : ¬ (i : Int) ≤ 20 := by omega
          obtain rfl : r = false := by rw [hr.out]; exact mayN_len_no (Or.inr (by have := hln.out; omega))
          clear hall hok
          go_wp2
          go_ret
          exact ⟨rfl, rfl⟩
      · have h1' : ¬ (1 : Int) ≤ (i : Int) := by omega
        obtain rfl : r = false := by rw [hr.out]; exact mayN_len_no (Or.inl (by have := hln.out; omega))
        clear hall hok
        go_wp2
        go_ret
        exact ⟨rfl, rfl⟩
theorem numL_pos (n : Nat) : 0 < (numL n).length := by
  by_cases h : n < 128
  · rw [code.numL_small n h]; simp
  · rw [code.numL_big n h]; simp
theorem cut_min (s : ByteArray) (k : Nat) : s.extract 0 (min (s.size : Int) (k : Int)).toNat = str (s.data.toList.take k) := by
  have hl : s.data.toList.length = s.size := by rw [Array.length_toList]; rfl
  rw [cut_text]
  congr 1
  rw [List.take_eq_take_iff]; omega
/-- what a law's texts are, the first so many -/
theorem arg_texts {w : World} {a : Option Addr} {len : Nat} (h : SliceArg w a len 1 (fun _ v => ∃ x, v = .string x ∧ x.size ≤ maxLen)) (k : Nat) (hk : k ≤ len) :
    ∃ X : List ByteArray, X.length = k ∧ ∀ (i : Nat) (x : ByteArray), X[i]? = some x → ∃ b o, a = some ⟨b, o, none⟩ ∧ b < w.heap.size ∧ w.cell? ⟨b, o + i, none⟩ = some (.string x) ∧ x.size ≤ maxLen :=
  list_of (fun i (x : ByteArray) => ∃ b o, a = some ⟨b, o, none⟩ ∧ b < w.heap.size ∧ w.cell? ⟨b, o + i, none⟩ = some (.string x) ∧ x.size ≤ maxLen) k (fun i hi => by
    obtain ⟨_, h2⟩ := h
    obtain ⟨b, o, ha, hb, hc⟩ := h2.resolve_left (by omega)
    obtain ⟨v0, c0, x0, rfl, w0⟩ := hc i (by omega) 0 (by omega)
    exact ⟨x0, b, o, ha, hb, by simpa using c0, w0⟩)
/-- so many kinds of these -/
def kC (U : List UInt8) : Nat → List UInt8
  | 0 => []
  | k + 1 => kC U k ++ U
set_option maxHeartbeats 8000000 in
theorem namesGet_walk (a0 : Option Addr) (len0 cap0 : Nat) (a1 : ByteArray) (a2 : Int) (w : World) (w0 : SliceArg w a0 len0 1 (fun _ v => ∃ x, v = .string x ∧ x.size ≤ maxLen)) (w1 : a1.size ≤ maxLen) (w2 : (Lit.int .i64 a2).wf = true) :
    Calls Try.prog 6 #[.slice a0 len0 cap0, .string a1, .int .i64 a2] w fun e w' => e = .returned (.bool true) ∧ Below w.heap.size w w' := by
  have hlen0 := w0.1
  obtain ⟨m, hm⟩ : ∃ m, m = min len0 5 := ⟨_, rfl⟩
  obtain ⟨X, hXl, hX⟩ := arg_texts w0 m (by omega)
  have hm5 : m ≤ 5 := by omega
  have hml : m ≤ len0 := by omega
  have hmin : min (len0 : Int) 5 = (m : Int) := by omega
  have hmin2 : (if (len0 : Int) < 5 then (len0 : Int) else 5) = (m : Int) := by split <;> omega
  have hmin3 : (if (5 : Int) < (len0 : Int) then (5 : Int) else (len0 : Int)) = (m : Int) := by split <;> omega
  have hwu : IntKind.u64.wrap (m : Int) = (m : Int) := IntWalk.u64_in _ (by omega)
  have hnum : ∀ W, Calls Try.prog 30 #[.int .u64 (m : Int)] W fun e w' => e = .returned (.string (str (numL m))) ∧ Below W.heap.size W w' := fun W => code.refNum_any m (by omega) W
  have hnl := code.numL_len64 m (by omega)
  obtain ⟨Ys, hYs⟩ : ∃ Ys : List Nm, Ys = X.map fun x => x.data.toList.take 22 := ⟨_, rfl⟩
  have hYl : Ys.length = m := by rw [hYs, List.length_map, hXl]
  have hw2 := of_wf_i64 w2
  have hw1 : a1.size ≤ 9223372036854775807 := w1
  have b0 := Below.refl w.heap.size w
  obtain ⟨U, hU⟩ : ∃ U, U = numL m ++ Ys.flatMap textL := ⟨_, rfl⟩
  have haw := fun W => awake_any W
  replace hX := Lib.hid hX; replace hnum := Lib.hid hnum; replace hYs := Lib.hid hYs; replace hYl := Lib.hid hYl; replace hw2 := Lib.hid hw2; replace b0 := Lib.hid b0; replace hU := Lib.hid hU; replace haw := Lib.hid haw; replace hnl := Lib.hid hnl; replace hXl := Lib.hid hXl
  replace hm := Lib.hid hm
  clear w0 w1 w2
  go_enter Try.func6, Try.ntmps6
  go_wp2
  go_loopg [7, 8] 3 (fun gf s7 s8 wr => ∃ (k : Nat) (D : List UInt8), s8 = .int .i64 (k : Int) ∧ k + gf = 3 ∧ s7 = .string (str D) ∧ D = kC U k ∧ D.length ≤ k * 170 ∧ 1 * k ≤ D.length ∧ Below w.heap.size w wr)
  case atStart => exact ⟨0, [], rfl, by omega, rfl, rfl, by simp, by simp, b0.out⟩
  case round =>
    clear b0
    obtain ⟨k, D, rfl, hkf, rfl, hD, hDl, hDl2, hb⟩ := hrel
    replace hb := Lib.hid hb
    cases gk with
    | zero =>
      obtain rfl : k = 3 := by omega
      obtain ⟨Z, hZ⟩ : ∃ Z, Z = D.length := ⟨_, rfl⟩
      obtain ⟨S0, hS0⟩ : ∃ S0, S0 = str D := ⟨_, rfl⟩
      have hsz : S0.size = Z := by rw [hS0, str_size, hZ]
      rw [← hS0]
      have hZ1 : 1 ≤ (Z : Int) := by omega
      have hZ2 : (Z : Int) ≤ 510 := by omega
      have hZ3 : ((Z : Int) == 0) = false := by simp; omega
      have hZ4 : ¬ (Z : Int) = 0 := by omega
      have hZ5 : ¬ Z = 0 := by omega
      obtain ⟨r, hr1⟩ : ∃ r, a2.tmod (Z : Int) = r := ⟨_, rfl⟩
      have hra : r.natAbs < Z := by
        rw [← hr1, Int.natAbs_tmod]
        have : ((Z : Int)).natAbs = Z := by omega
        rw [this]
        exact Nat.mod_lt _ (by omega)
      have hr2 : -(Z : Int) < r := by omega
      have hr3 : r < (Z : Int) := by omega
      obtain ⟨K, hK2⟩ : ∃ K : Nat, r % (Z : Int) = (K : Int) := ⟨(r % (Z : Int)).toNat, by rw [Int.toNat_of_nonneg (Int.emod_nonneg _ hZ4)]⟩
      have hKlt : (K : Int) < (Z : Int) := by rw [← hK2]; exact Int.emod_lt_of_pos _ (by omega)
      have hK1 : (r + (Z : Int)) % (Z : Int) = (K : Int) := by rw [Int.add_emod_right]; exact hK2
      have hK3 : (r + (Z : Int)).tmod (Z : Int) = (K : Int) := by rw [Int.tmod_eq_emod_of_nonneg (by omega)]; exact hK1
      have hw9 : IntKind.i64.wrap (r + (Z : Int)) = r + (Z : Int) := IntWalk.i64_in _ (by omega)
      have hK0 : (0 : Int) ≤ (K : Int) := by omega
      have hK4 : (K : Int) ≤ (Z : Int) := by omega
      have hrz : (0 : Int) ≤ r + (Z : Int) := by omega
      clear hra
      obtain ⟨z5, hz5⟩ : ∃ z : Nat, min (a1.size : Int) 5 = (z : Int) := ⟨min a1.size 5, by omega⟩
      have hz5b : (if (a1.size : Int) < 5 then (a1.size : Int) else 5) = (z5 : Int) := by split <;> omega
      have hz51 : (z5 : Int) ≤ (a1.size : Int) := by omega
      have hz50 : (0 : Int) ≤ (z5 : Int) := by omega
      obtain ⟨A2, hA2⟩ : ∃ A2, A2 = a1.data.toList.take 5 := ⟨_, rfl⟩
      have hA2l : A2.length ≤ 5 := by rw [hA2, List.length_take]; omega
      have hx2 : a1.extract 0 z5 = str A2 := by
        have := cut_min a1 5
        rw [hA2, ← this]
        congr 1
        have h5 : min (a1.size : Int) ((5 : Nat) : Int) = (z5 : Int) := hz5
        rw [h5]; omega
      obtain ⟨A1, hA1⟩ : ∃ A1, A1 = D.take K := ⟨_, rfl⟩
      have hA1l : A1.length ≤ 510 := by rw [hA1, List.length_take]; omega
      have hx1 : S0.extract 0 K = str A1 := by rw [hS0, cut_extract, hA1]; simp
      obtain ⟨p, hp1⟩ : ∃ p : Nat, bits .and .i64 (a1.size : Int) 1 = (p : Int) := ⟨((a1.size : Int) % 2).toNat, by have := and_mask (a1.size : Int) 1 1 (by decide) (by decide); rw [show ((1 : Nat) : Int) = 1 from rfl] at this; rw [this]; omega⟩
      have hp2 : p ≤ 1 := by
        have := and_mask (a1.size : Int) 1 1 (by decide) (by decide)
        rw [show ((1 : Nat) : Int) = 1 from rfl] at this
        rw [this] at hp1; omega
      obtain ⟨Q, hQ⟩ : ∃ Q : Nat, min ((K : Int) + (p : Int)) (Z : Int) = (Q : Int) := ⟨min (K + p) Z, by omega⟩
      have hQb : (if (K : Int) + (p : Int) < (Z : Int) then (K : Int) + (p : Int) else (Z : Int)) = (Q : Int) := by split <;> omega
      have hQ1 : (Q : Int) ≤ (Z : Int) := by omega
      have hQ0 : (0 : Int) ≤ (Q : Int) := by omega
      obtain ⟨A3, hA3⟩ : ∃ A3, A3 = D.drop Q := ⟨_, rfl⟩
      have hA3l : A3.length ≤ 510 := by rw [hA3, List.length_drop]; omega
      have hx3 : S0.extract Q Z = str A3 := by rw [hS0, cut_extract, hA3, hZ, List.take_of_length_le (by rw [List.length_drop]; exact Nat.le_refl _)]
      have hf1 : ¬ 9223372036854775807 < A1.length + A2.length := by omega
      have hf2 : ¬ 9223372036854775807 < A1.length + A2.length + A3.length := by omega
      have hf3 : ¬ 9223372036854775807 < A1.length + (A2.length + A3.length) := by omega
      obtain ⟨T, hT1⟩ : ∃ T, A1 ++ A2 ++ A3 = T := ⟨_, rfl⟩
      have hT2 : A1 ++ (A2 ++ A3) = T := by rw [← List.append_assoc]; exact hT1
      have hwq : IntKind.i64.wrap ((K : Int) + (p : Int)) = (K : Int) + (p : Int) := IntWalk.i64_in _ (by omega)
      have hgetT := fun W => get_any (str T) W
      rw [str_toList] at hgetT
      replace hgetT := Lib.hid hgetT
      clear hZ hS0 hA1 hA2 hA3 hA1l hA2l hA3l hD hDl hDl2 hmin hmin2 hmin3 hwu
      go_upto_region 11 with fail
      refine wp_region_noPanic ?_; refine wp_region_held_drew (S := (fun W' => Below w.heap.size w W')) (by kernel_rfl) ?_ (fun hHeld => ?_); (focus ((try dsimp only); exact hb.out.drew; done)); (refine take_t (i := 0) (d := 62) (oi := _) (v := ?_) rfl rfl (by kernel_rfl) (by kernel_rfl) (by kernel_rfl) (by rfl) ?_ (by assumption) ?_; rotate_left; (focus (intro w0 hSw; (try dsimp only at hSw); go_simp; (try with_reducible rfl); done)); try simp only [Act.put, List.setIfInBounds_toArray, List.set_cons_zero, List.set_cons_succ]); (refine take_t (i := 1) (d := 63) (oi := _) (v := ?_) rfl rfl (by kernel_rfl) (by kernel_rfl) (by kernel_rfl) (by rfl) ?_ (by assumption) ?_; rotate_left; (focus (intro w0 hSw; (try dsimp only at hSw); go_simp; (try with_reducible rfl); done)); try simp only [Act.put, List.setIfInBounds_toArray, List.set_cons_zero, List.set_cons_succ]); (refine take_t (i := 2) (d := 64) (oi := _) (v := ?_) rfl rfl (by kernel_rfl) (by kernel_rfl) (by kernel_rfl) (by rfl) ?_ (by assumption) ?_; rotate_left; (focus (intro w0 hSw; (try dsimp only at hSw); go_simp; (try with_reducible rfl); done)); try simp only [Act.put, List.setIfInBounds_toArray, List.set_cons_zero, List.set_cons_succ]); (refine take_t (i := 3) (d := 65) (oi := _) (v := ?_) rfl rfl (by kernel_rfl) (by kernel_rfl) (by kernel_rfl) (by rfl) ?_ (by assumption) ?_; rotate_left; (focus (intro w0 hSw; (try dsimp only at hSw); go_simp; (try with_reducible rfl); done)); try simp only [Act.put, List.setIfInBounds_toArray, List.set_cons_zero, List.set_cons_succ]); (refine take_t (i := 4) (d := 66) (oi := _) (v := ?_) rfl rfl (by kernel_rfl) (by kernel_rfl) (by kernel_rfl) (by rfl) ?_ (by assumption) ?_; rotate_left; (focus (intro w0 hSw; (try dsimp only at hSw); go_simp; (try with_reducible rfl); done)); try simp only [Act.put, List.setIfInBounds_toArray, List.set_cons_zero, List.set_cons_succ]); (refine take_t (i := 5) (d := 67) (oi := _) (v := ?_) rfl rfl (by kernel_rfl) (by kernel_rfl) (by kernel_rfl) (by rfl) ?_ (by assumption) ?_; rotate_left; (focus (intro w0 hSw; (try dsimp only at hSw); go_simp; (try with_reducible rfl); done)); try simp only [Act.put, List.setIfInBounds_toArray, List.set_cons_zero, List.set_cons_succ]); (refine take_t (i := 6) (d := 68) (oi := _) (v := ?_) rfl rfl (by kernel_rfl) (by kernel_rfl) (by kernel_rfl) (by rfl) ?_ (by assumption) ?_; rotate_left; (focus (intro w0 hSw; (try dsimp only at hSw); go_simp; (try with_reducible rfl); done)); try simp only [Act.put, List.setIfInBounds_toArray, List.set_cons_zero, List.set_cons_succ]); (refine take_t (i := 7) (d := 69) (oi := _) (v := ?_) rfl rfl (by kernel_rfl) (by kernel_rfl) (by kernel_rfl) (by rfl) ?_ (by assumption) ?_; rotate_left; (focus (intro w0 hSw; (try dsimp only at hSw); go_simp; (try with_reducible rfl); done)); try simp only [Act.put, List.setIfInBounds_toArray, List.set_cons_zero, List.set_cons_succ]); (refine take_t (i := 8) (d := 70) (oi := _) (v := ?_) rfl rfl (by kernel_rfl) (by kernel_rfl) (by kernel_rfl) (by rfl) ?_ (by assumption) ?_; rotate_left; (focus (intro w0 hSw; (try dsimp only at hSw); go_simp; (try with_reducible rfl); done)); try simp only [Act.put, List.setIfInBounds_toArray, List.set_cons_zero, List.set_cons_succ]); (refine take_t (i := 9) (d := 71) (oi := _) (v := ?_) rfl rfl (by kernel_rfl) (by kernel_rfl) (by kernel_rfl) (by rfl) ?_ (by assumption) ?_; rotate_left; (focus (intro w0 hSw; (try dsimp only at hSw); go_simp; (try with_reducible rfl); done)); try simp only [Act.put, List.setIfInBounds_toArray, List.set_cons_zero, List.set_cons_succ]); (refine take_t (i := 10) (d := 72) (oi := _) (v := ?_) rfl rfl (by kernel_rfl) (by kernel_rfl) (by kernel_rfl) (by rfl) ?_ (by assumption) ?_; rotate_left; (focus (intro w0 hSw; (try dsimp only at hSw); go_simp; (try with_reducible rfl); done)); try simp only [Act.put, List.setIfInBounds_toArray, List.set_cons_zero, List.set_cons_succ]); (refine take_t (i := 11) (d := 73) (oi := _) (v := ?_) rfl rfl (by kernel_rfl) (by kernel_rfl) (by kernel_rfl) (by rfl) ?_ (by assumption) ?_; rotate_left; (focus (intro w0 hSw; (try dsimp only at hSw); go_simp; (try with_reducible rfl); done)); try simp only [Act.put, List.setIfInBounds_toArray, List.set_cons_zero, List.set_cons_succ]); (refine take_t (i := 12) (d := 74) (oi := _) (v := ?_) rfl rfl (by kernel_rfl) (by kernel_rfl) (by kernel_rfl) (by rfl) ?_ (by assumption) ?_; rotate_left; (focus (intro w0 hSw; (try dsimp only at hSw); go_simp; (try with_reducible rfl); done)); try simp only [Act.put, List.setIfInBounds_toArray, List.set_cons_zero, List.set_cons_succ]); (refine take_t (i := 13) (d := 75) (oi := _) (v := ?_) rfl rfl (by kernel_rfl) (by kernel_rfl) (by kernel_rfl) (by rfl) ?_ (by assumption) ?_; rotate_left; (focus (intro w0 hSw; (try dsimp only at hSw); go_simp; (try with_reducible rfl); done)); try simp only [Act.put, List.setIfInBounds_toArray, List.set_cons_zero, List.set_cons_succ]); (refine take_t (i := 14) (d := 76) (oi := _) (v := ?_) rfl rfl (by kernel_rfl) (by kernel_rfl) (by kernel_rfl) (by rfl) ?_ (by assumption) ?_; rotate_left; (focus (intro w0 hSw; (try dsimp only at hSw); go_simp; (try with_reducible rfl); done)); try simp only [Act.put, List.setIfInBounds_toArray, List.set_cons_zero, List.set_cons_succ]); (refine take_t (i := 15) (d := 77) (oi := _) (v := ?_) rfl rfl (by kernel_rfl) (by kernel_rfl) (by kernel_rfl) (by rfl) ?_ (by assumption) ?_; rotate_left; (focus (intro w0 hSw; (try dsimp only at hSw); go_simp; (try with_reducible rfl); done)); try simp only [Act.put, List.setIfInBounds_toArray, List.set_cons_zero, List.set_cons_succ]); (refine take_t (i := 16) (d := 78) (oi := _) (v := ?_) rfl rfl (by kernel_rfl) (by kernel_rfl) (by kernel_rfl) (by rfl) ?_ (by assumption) ?_; rotate_left; (focus (intro w0 hSw; (try dsimp only at hSw); go_simp; (try with_reducible rfl); done)); try simp only [Act.put, List.setIfInBounds_toArray, List.set_cons_zero, List.set_cons_succ]); (refine take_t (i := 17) (d := 79) (oi := _) (v := ?_) rfl rfl (by kernel_rfl) (by kernel_rfl) (by kernel_rfl) (by rfl) ?_ (by assumption) ?_; rotate_left; (focus (intro w0 hSw; (try dsimp only at hSw); go_simp; (try with_reducible rfl); done)); try simp only [Act.put, List.setIfInBounds_toArray, List.set_cons_zero, List.set_cons_succ]); (refine take_t (i := 18) (d := 80) (oi := _) (v := ?_) rfl rfl (by kernel_rfl) (by kernel_rfl) (by kernel_rfl) (by rfl) ?_ (by assumption) ?_; rotate_left; (focus (intro w0 hSw; (try dsimp only at hSw); go_simp; (try with_reducible rfl); done)); try simp only [Act.put, List.setIfInBounds_toArray, List.set_cons_zero, List.set_cons_succ]); (refine take_t (i := 19) (d := 81) (oi := _) (v := ?_) rfl rfl (by kernel_rfl) (by kernel_rfl) (by kernel_rfl) (by rfl) ?_ (by assumption) ?_; rotate_left; (focus (intro w0 hSw; (try dsimp only at hSw); go_simp; (try with_reducible rfl); done)); try simp only [Act.put, List.setIfInBounds_toArray, List.set_cons_zero, List.set_cons_succ]); (refine take_t (i := 20) (d := 7) (oi := _) (v := ?_) rfl rfl (by kernel_rfl) (by kernel_rfl) (by kernel_rfl) (by rfl) ?_ (by assumption) ?_; rotate_left; (focus (intro w0 hSw; (try dsimp only at hSw); go_simp; (try with_reducible rfl); done)); try simp only [Act.put, List.setIfInBounds_toArray, List.set_cons_zero, List.set_cons_succ]); refine wpAnyH_done (by kernel_rfl) ?_ _; refine NoPanic.normal ?_
      replace hb := Lib.hid hHeld
      clear hHeld
      clear hx1 hx2 hx3 hT1 hT2 hf1 hf2 hf3 hQ hQb hQ1 hQ0 hp1 hp2 hwq hK0 hK1 hK2 hK3 hK4 hKlt hr1 hr2 hr3 hw9 hrz hz5 hz5b hz51 hz50 hZ1 hZ2 hZ3 hZ4 hZ5
      have hE3 := getN_e3 T
      by_cases hN : (getN T).2 = 0
      · obtain ⟨hinv, hok⟩ := getN_inv T hN
        have hgood : ∀ W, Calls Try.prog 27 #[.string (str T)] W fun e w' => ∃ g, e = .returned (.tuple #[.pointer (some ⟨g, 0, none⟩), .int .i64 0]) ∧ Hp W [] [nmT g (getN T).1] w' := fun W => (hgetT.out W).mono fun e w' h => by
          rcases h with ⟨h1, _⟩ | ⟨_, h2⟩
          · exact absurd hN h1
          · exact h2
        obtain ⟨L, hL⟩ : ∃ L, L = (getN T).1 := ⟨_, rfl⟩
        rw [← hL] at hinv hok hgood
        clear hL hN hE3 hgetT
        have hFew : Few L := fun k hk => ⟨(hok k hk).1, fun x hx => (mayN_len ((hok k hk).2.2 x hx)).2⟩
        have hok2 := hok
        replace hgood := Lib.hid hgood; replace hok := Lib.hid hok2; replace hFew := Lib.hid hFew; replace hinv := Lib.hid hinv
        clear hok2
        go_wp2_with (go_at_call 27; (with_reducible refine (hgood.out _).mono ?_); rintro e w5 ⟨g, rfl, h1⟩; have hp := Lib.hid (((Hp.none_ w []).below hb.out).take h1); clear h1)
        clear hgood hb
        go_loopg [13] 3 (fun gf s13 wr => ∃ k : Nat, s13 = .int .i64 (k : Int) ∧ k + gf = 3 ∧ Hp w [] [nmT g L] wr)
        case atStart => exact ⟨0, rfl, by omega, hp.out⟩
        case round =>
          clear hp
          obtain ⟨k, rfl, hkf, hp⟩ := hrel
          replace hp := Lib.hid hp
          cases gk with
          | zero =>
            obtain rfl : k = 3 := by omega
            have hinv2 := hinv.out
            clear hinv
            subst hinv2
            have teq : (putB L == putB L) = true := by simp
            clear hkf
            go_wp2_with (first
              | (go_at_call 21; (with_reducible refine (haw.out _).mono ?_); rintro e w6 ⟨rfl, b6⟩; replace hp := Lib.hid (hp.out.below b6); clear b6)
              | (go_at_call 28; (with_reducible refine (put_hp hp.out (i := 0) rfl hFew.out).mono ?_); rintro e w7 ⟨rfl, h7⟩; replace hp := Lib.hid h7; clear h7))
            go_ret
            exact ⟨rfl, hp.out.bel⟩
          | succ f =>
            have hk3 : k < 3 := by omega
            have hki : (k : Int) < 3 := by omega
            obtain ⟨hl64, hnd, hmay⟩ := hok.out k hk3
            obtain ⟨l, hl⟩ : ∃ l, l = L k := ⟨_, rfl⟩
            have hall := fun W (h : Hp w [] [nmT g L] W) => all_hp h (i := 0) rfl k hk3 (by omega)
            rw [← hl] at hl64 hnd hmay hall
            obtain ⟨n, hln⟩ : ∃ n, n = l.length := ⟨_, rfl⟩
            rw [← hln] at hl64 hall
            replace hall := Lib.hid hall; replace hnd := Lib.hid hnd; replace hmay := Lib.hid hmay; replace hln := Lib.hid hln; replace hkf := Lib.hid hkf
            clear hl
            go_wp2_with (go_at_call 29; (with_reducible refine (hall.out _ hp.out).mono ?_); rintro e w8 ⟨v', rfl, ⟨ad, cp, rfl⟩, h8⟩; replace hp := Lib.hid h8; clear h8)
            clear hall
            go_loopg [15] n (fun gi s15 wr => ∃ i : Nat, s15 = .int .i64 (i : Int) ∧ i + gi = n ∧ Hp w [] [.row 9 1 (.slice ad n cp) n (nmC l), nmT g L] wr)
            case atStart => exact ⟨0, rfl, by omega, hp.out⟩
            case round =>
              clear hp
              obtain ⟨i, rfl, hif, hp⟩ := hrel
              replace hp := Lib.hid hp
              cases gk with
              | zero =>
                obtain rfl : i = n := by omega
                clear hif
                go_wp2_with fail
                go_roundg f
                case rel => exact ⟨k + 1, by go_num, by have := hkf.out; omega, hp.out.drop 0⟩
                case measure => omega
              | succ q =>
                have hi1 : (i : Int) < (n : Int) := by omega
                have hi0 : (0 : Int) ≤ (i : Int) := by omega
                obtain ⟨b, cp2, hv, _, _⟩ := (hp.out.row (i := 0) rfl).form (by omega)
                injection hv with hv1 hv2 hv3
                subst hv1 hv3
                obtain ⟨x, hx⟩ : ∃ x, l[i]? = some x := ⟨_, List.getElem?_eq_getElem (by have := hln.out; omega)⟩
                have hcl : ∀ W, Hp w [] [.row 9 1 (.slice (some ⟨b, 0, none⟩) n cp) n (nmC l), nmT g L] W → ∀ (j : Nat) (y : Nm), l[j]? = some y → W.cell? ⟨b, j, none⟩ = some (.string (str y)) := fun W h j y hy =>
                  ((h.row (i := 0) rfl).cellAt j (by have := hln.out; have := (List.getElem?_eq_some_iff.1 hy).1; omega)).trans (nmC_at l j y hy)
                have hxm : mayN x = true := hmay.out x (List.mem_of_getElem? hx)
                have hlm := fun W => lmay_any x (by have := mayN_len hxm; omega) W
                rw [hxm] at hlm
                replace hlm := Lib.hid hlm; replace hcl := Lib.hid hcl; replace hx := Lib.hid hx; replace hif := Lib.hid hif
                clear hxm
                go_wp2_with fail
                go_loopg [16] i (fun gj s16 wr => ∃ j : Nat, s16 = .int .i64 (j : Int) ∧ j + gj = i ∧ Hp w [] [.row 9 1 (.slice (some ⟨b, 0, none⟩) n cp) n (nmC l), nmT g L] wr)
                case atStart => exact ⟨0, rfl, by omega, hp.out⟩
                case round =>
                  clear hp
                  obtain ⟨j, rfl, hjf, hp⟩ := hrel
                  replace hp := Lib.hid hp
                  cases gk with
                  | zero =>
                    obtain rfl : j = i := by omega
                    have d0 := hcl.out _ hp.out j x hx.out
                    clear hjf
                    go_wp2_with (go_at_call 23; (with_reducible refine (hlm.out _).mono ?_); rintro e w9 ⟨rfl, rfl⟩)
                    go_roundg q
                    case rel => exact ⟨j + 1, by go_num, by have := hif.out; omega, hp.out⟩
                    case measure => omega
                  | succ t =>
                    have hj1 : (j : Int) < (i : Int) := by omega
                    have hj2 : (j : Int) < (n : Int) := by omega
                    have hj0 : (0 : Int) ≤ (j : Int) := by omega
                    obtain ⟨y, hy⟩ : ∃ y, l[j]? = some y := ⟨_, List.getElem?_eq_getElem (by have := hln.out; omega)⟩
                    have hne : (x == y) = false := by
                      have hh : x ≠ y := by
                        rintro rfl
                        obtain ⟨g1, g2⟩ := List.getElem?_eq_some_iff.1 hy
                        obtain ⟨g3, g4⟩ := List.getElem?_eq_some_iff.1 hx.out
                        exact List.pairwise_iff_getElem.1 hnd.out j i g1 g3 (by omega) (g2.trans g4.symm)
                      simp [hh]
                    have d0 := hcl.out _ hp.out i x hx.out
                    have d1 := hcl.out _ hp.out j y hy
                    have dd0 := hcl.out _ hp.out.drew i x hx.out
                    have dd1 := hcl.out _ hp.out.drew j y hy
                    clear hy
                    go_upto_region 25 with fail
                    refine wp_region_noPanic ?_; refine wp_region_held_drew (S := (fun W' => Hp w [] [.row 9 1 (.slice (some ⟨b, 0, none⟩) n cp) n (nmC l), nmT g L] W' ∧ W'.cell? ⟨b, i, none⟩ = some (.string (str x)) ∧ W'.cell? ⟨b, j, none⟩ = some (.string (str y)))) (by kernel_rfl) ?_ (fun hHeld => ?_); (focus ((try dsimp only); exact ⟨hp.out.drew, dd0, dd1⟩; done)); (refine take_t (i := 0) (d := 120) (oi := _) (v := ?_) rfl rfl (by kernel_rfl) (by kernel_rfl) (by kernel_rfl) (by rfl) ?_ (by assumption) ?_; rotate_left; (focus (intro w0 hSw; (try dsimp only at hSw); go_simp; (try with_reducible rfl); done)); try simp only [Act.put, List.setIfInBounds_toArray, List.set_cons_zero, List.set_cons_succ]); (refine take_t (i := 1) (d := 121) (oi := _) (v := ?_) rfl rfl (by kernel_rfl) (by kernel_rfl) (by kernel_rfl) (by rfl) ?_ (by assumption) ?_; rotate_left; (focus (intro w0 hSw; (try dsimp only at hSw); go_simp; (try with_reducible rfl); done)); try simp only [Act.put, List.setIfInBounds_toArray, List.set_cons_zero, List.set_cons_succ]); (refine take_t (i := 2) (d := 122) (oi := _) (v := ?_) rfl rfl (by kernel_rfl) (by kernel_rfl) (by kernel_rfl) (by rfl) ?_ (by assumption) ?_; rotate_left; (focus (intro w0 hSw; (try dsimp only at hSw); go_simp; (try with_reducible rfl); done)); try simp only [Act.put, List.setIfInBounds_toArray, List.set_cons_zero, List.set_cons_succ]); (refine take_t (i := 3) (d := 123) (oi := _) (v := ?_) rfl rfl (by kernel_rfl) (by kernel_rfl) (by kernel_rfl) (by rfl) ?_ (by assumption) ?_; rotate_left; (focus (intro w0 hSw; (try dsimp only at hSw); go_simp; (try with_reducible rfl); done)); try simp only [Act.put, List.setIfInBounds_toArray, List.set_cons_zero, List.set_cons_succ]); (refine take_t (i := 4) (d := 124) (oi := _) (v := ?_) rfl rfl (by kernel_rfl) (by kernel_rfl) (by kernel_rfl) (by rfl) ?_ (by assumption) ?_; rotate_left; (focus (intro w0 hSw; (try dsimp only at hSw); go_simp; (try with_reducible rfl); done)); try simp only [Act.put, List.setIfInBounds_toArray, List.set_cons_zero, List.set_cons_succ]); (refine take_t (i := 5) (d := 125) (oi := _) (v := ?_) rfl rfl (by kernel_rfl) (by kernel_rfl) (by kernel_rfl) (by rfl) ?_ (by assumption) ?_; rotate_left; (focus (intro w0 hSw; (try dsimp only at hSw); go_simp; (try with_reducible rfl); done)); try simp only [Act.put, List.setIfInBounds_toArray, List.set_cons_zero, List.set_cons_succ]); (refine take_t (i := 6) (d := 126) (oi := _) (v := ?_) rfl rfl (by kernel_rfl) (by kernel_rfl) (by kernel_rfl) (by rfl) ?_ (by assumption) ?_; rotate_left; (focus (intro w0 hSw; (try dsimp only at hSw); go_simp; (try with_reducible rfl); done)); try simp only [Act.put, List.setIfInBounds_toArray, List.set_cons_zero, List.set_cons_succ]); (refine take_t (i := 7) (d := 127) (oi := _) (v := ?_) rfl rfl (by kernel_rfl) (by kernel_rfl) (by kernel_rfl) (by rfl) ?_ (by assumption) ?_; rotate_left; (focus (intro w0 hSw; (try dsimp only at hSw); go_simp; (try with_reducible rfl); done)); try simp only [Act.put, List.setIfInBounds_toArray, List.set_cons_zero, List.set_cons_succ]); (refine take_t (i := 8) (d := 128) (oi := _) (v := ?_) rfl rfl (by kernel_rfl) (by kernel_rfl) (by kernel_rfl) (by rfl) ?_ (by assumption) ?_; rotate_left; (focus (intro w0 hSw; (try dsimp only at hSw); go_simp; (try with_reducible rfl); done)); try simp only [Act.put, List.setIfInBounds_toArray, List.set_cons_zero, List.set_cons_succ]); refine wpAnyH_done (by kernel_rfl) ?_ _; refine NoPanic.normal ?_
                    have hp9 := hHeld.1
                    clear hHeld d0 d1 dd0 dd1
                    replace hp := Lib.hid hp9
                    go_wp2_with fail
                    go_roundg t
                    case rel => exact ⟨j + 1, by go_num, by omega, hp.out⟩
                    case measure => omega
      · obtain ⟨E, hE⟩ : ∃ E, E = (getN T).2 := ⟨_, rfl⟩
        rw [← hE] at hN hE3
        have hbadc : ∀ W, Calls Try.prog 27 #[.string (str T)] W fun e w' => e = .returned (.tuple #[.pointer none, .int .i64 E]) ∧ Below W.heap.size W w' := fun W => (hgetT.out W).mono fun e w' h => by
          rcases h with ⟨_, h1, h2⟩ | ⟨h1, _⟩
          · rw [hE]; exact ⟨h1, h2⟩
          · rw [hE] at hN; exact absurd h1 hN
        have hE23 : E = 2 ∨ E = 3 := by
          rcases hE3 with h | h | h
          · exact absurd h hN
          · exact Or.inl h
          · exact Or.inr h
        clear hE hN hE3 hgetT
        rcases hE23 with rfl | rfl
        · replace hbadc := Lib.hid hbadc
          go_wp2_with (first
            | (go_at_call 27; (with_reducible refine (hbadc.out _).mono ?_); rintro e w5 ⟨rfl, b5⟩; replace hb := Lib.hid (belowCont hb.out b5); clear b5)
            | (go_at_call 21; (with_reducible refine (haw.out _).mono ?_); rintro e w6 ⟨rfl, b6⟩; replace hb := Lib.hid (belowCont hb.out b6); clear b6))
          go_ret
          exact ⟨rfl, hb.out⟩
        · replace hbadc := Lib.hid hbadc
          go_wp2_with (first
            | (go_at_call 27; (with_reducible refine (hbadc.out _).mono ?_); rintro e w5 ⟨rfl, b5⟩; replace hb := Lib.hid (belowCont hb.out b5); clear b5)
            | (go_at_call 21; (with_reducible refine (haw.out _).mono ?_); rintro e w6 ⟨rfl, b6⟩; replace hb := Lib.hid (belowCont hb.out b6); clear b6))
          go_ret
          exact ⟨rfl, hb.out⟩
    | succ f =>
      have hki : (k : Int) < 3 := by omega
      have hfit : ¬ 9223372036854775807 < D.length + (numL m).length := by have := hnl.out; omega
      have hnext : kC U (k + 1) = D ++ (numL m ++ Ys.flatMap textL) := by rw [hD, ← hU.out]; rfl
      replace hnext := Lib.hid hnext; replace hfit := Lib.hid hfit
      have hfit2 := hfit.out
      have hkf2 := hkf
      replace hkf := Lib.hid hkf
      clear hD
      go_wp2_with (go_at_call 30; (with_reducible refine (hnum.out _).mono ?_); rintro e w2 ⟨rfl, b2⟩; replace hb := Lib.hid (belowCont hb.out b2); clear b2)
      go_loopg [7, 9] m (fun gi s7 s9 wr => ∃ (i : Nat) (E : List UInt8), s9 = .int .i64 (i : Int) ∧ i + gi = m ∧ s7 = .string (str E) ∧ E = D ++ (numL m ++ (Ys.take i).flatMap textL) ∧ E.length ≤ k * 170 + 10 + i * 32 ∧ D.length + 1 ≤ E.length ∧ Below w.heap.size w wr)
      case atStart => exact ⟨0, _, rfl, by omega, rfl, by simp, by rw [List.length_append]; have := hnl.out; omega, by rw [List.length_append]; have := numL_pos m; omega, hb.out⟩
      case round =>
        clear hb hfit hfit2
        obtain ⟨i, E, rfl, hif, rfl, hE, hEl, hEl2, hb⟩ := hrel
        replace hb := Lib.hid hb
        cases gk with
        | zero =>
          obtain rfl : i = m := by omega
          have hEn : E = kC U (k + 1) := by rw [hnext.out, hE, List.take_of_length_le (by rw [hYl.out]; exact Nat.le_refl _)]
          replace hEn := Lib.hid hEn
          clear hE
          by_cases hl5 : (i : Int) < (len0 : Int)
          · have hl6 : ¬ (i : Int) < 5 := by have := hm.out; omega
            go_wp2_with fail
            go_roundg f
            case rel => exact ⟨k + 1, E, by go_num, by have := hkf.out; omega, rfl, hEn.out, by omega, by omega, hb.out⟩
            case measure => omega
          · go_wp2_with fail
            go_roundg f
            case rel => exact ⟨k + 1, E, by go_num, by have := hkf.out; omega, rfl, hEn.out, by omega, by omega, hb.out⟩
            case measure => omega
        | succ g =>
          have hi1 : (i : Int) < (len0 : Int) := by omega
          have hi2 : (i : Int) < 5 := by omega
          have hi0 : (0 : Int) ≤ (i : Int) := by omega
          obtain ⟨x, hx⟩ : ∃ x, X[i]? = some x := ⟨_, List.getElem?_eq_getElem (by have := hXl.out; omega)⟩
          obtain ⟨b, o, rfl, hbl, hc0, hxs⟩ := hX.out i x hx
          have d0 : wr.cell? ⟨b, o + i, none⟩ = some (.string x) := (hb.out.cell (p := ⟨b, o + i, none⟩) hbl).trans hc0
          obtain ⟨y, hy⟩ : ∃ y, y = x.data.toList.take 22 := ⟨_, rfl⟩
          have hYi : Ys[i]? = some y := by rw [hYs.out, List.getElem?_map, hx, hy]; rfl
          have hyl : y.length ≤ 22 := by rw [hy, List.length_take]; omega
          have hcut : x.extract 0 (min (x.size : Int) 22).toNat = str y := by rw [hy]; exact cut_min x 22
          obtain ⟨z, hz⟩ : ∃ z : Nat, min (x.size : Int) 22 = (z : Int) := ⟨min x.size 22, by omega⟩
          rw [hz] at hcut
          have hzn : ((z : Int)).toNat = z := by omega
          rw [hzn] at hcut
          have hz1 : (0 : Int) ≤ (z : Int) := by omega
          have hz2 : (z : Int) ≤ (x.size : Int) := by omega
          have hz3 : (if (x.size : Int) < 22 then (x.size : Int) else 22) = (z : Int) := by split <;> omega
          have htx : ∀ W, Calls Try.prog 31 #[.string (str y)] W fun e w' => e = .returned (.string (str (textL y))) ∧ Below W.heap.size W w' := fun W => code.rtext_put y (by omega) W
          have htl := code.textL_len y (by omega)
          have hfit3 : ¬ 9223372036854775807 < E.length + (textL y).length := by omega
          have hE2 : E ++ textL y = D ++ (numL m ++ (Ys.take (i + 1)).flatMap textL) := by rw [flat_take1 textL Ys i y hYi, hE]; simp
          have hl2 : (E ++ textL y).length ≤ k * 170 + 10 + (i + 1) * 32 := by rw [List.length_append]; omega
          have hl3 : D.length + 1 ≤ (E ++ textL y).length := by rw [List.length_append]; omega
          replace htx := Lib.hid htx; replace hE2 := Lib.hid hE2; replace hl2 := Lib.hid hl2; replace hl3 := Lib.hid hl3
          clear hx hc0 hYi hyl hy hE htl hEl hEl2 hxs
          go_upto_region 9 with fail
          refine wp_region_noPanic ?_; refine wp_region_held_drew (S := (fun W' => Below w.heap.size w W' ∧ W'.cell? ⟨b, o + i, none⟩ = some (.string x))) (by kernel_rfl) ?_ (fun hHeld => ?_); (focus ((try dsimp only); (first | exact ⟨hb.out.drew, d0⟩ | exact ⟨hb3, (b3.cell (p := ⟨b, o + i, none⟩) (Nat.lt_of_lt_of_le hbl hb.out.size)).trans d0⟩); done)); (refine take_t (i := 0) (d := 38) (oi := _) (v := ?_) rfl rfl (by kernel_rfl) (by kernel_rfl) (by kernel_rfl) (by rfl) ?_ (by assumption) ?_; rotate_left; (focus (intro w0 hSw; (try dsimp only at hSw); go_simp; (try with_reducible rfl); done)); try simp only [Act.put, List.setIfInBounds_toArray, List.set_cons_zero, List.set_cons_succ]); (refine take_t (i := 1) (d := 39) (oi := _) (v := ?_) rfl rfl (by kernel_rfl) (by kernel_rfl) (by kernel_rfl) (by rfl) ?_ (by assumption) ?_; rotate_left; (focus (intro w0 hSw; (try dsimp only at hSw); go_simp; (try with_reducible rfl); done)); try simp only [Act.put, List.setIfInBounds_toArray, List.set_cons_zero, List.set_cons_succ]); (refine take_t (i := 2) (d := 40) (oi := _) (v := ?_) rfl rfl (by kernel_rfl) (by kernel_rfl) (by kernel_rfl) (by rfl) ?_ (by assumption) ?_; rotate_left; (focus (intro w0 hSw; (try dsimp only at hSw); go_simp; (try with_reducible rfl); done)); try simp only [Act.put, List.setIfInBounds_toArray, List.set_cons_zero, List.set_cons_succ]); (refine take_t (i := 3) (d := 41) (oi := _) (v := ?_) rfl rfl (by kernel_rfl) (by kernel_rfl) (by kernel_rfl) (by rfl) ?_ (by assumption) ?_; rotate_left; (focus (intro w0 hSw; (try dsimp only at hSw); go_simp; (try with_reducible rfl); done)); try simp only [Act.put, List.setIfInBounds_toArray, List.set_cons_zero, List.set_cons_succ]); (refine take_t (i := 4) (d := 42) (oi := _) (v := ?_) rfl rfl (by kernel_rfl) (by kernel_rfl) (by kernel_rfl) (by rfl) ?_ (by assumption) ?_; rotate_left; (focus (intro w0 hSw; (try dsimp only at hSw); go_simp; (try with_reducible rfl); done)); try simp only [Act.put, List.setIfInBounds_toArray, List.set_cons_zero, List.set_cons_succ]); (refine take_t (i := 5) (d := 43) (oi := _) (v := ?_) rfl rfl (by kernel_rfl) (by kernel_rfl) (by kernel_rfl) (by rfl) ?_ (by assumption) ?_; rotate_left; (focus (intro w0 hSw; (try dsimp only at hSw); go_simp; (try with_reducible rfl); done)); try simp only [Act.put, List.setIfInBounds_toArray, List.set_cons_zero, List.set_cons_succ]); (refine take_t (i := 6) (d := 44) (oi := _) (v := ?_) rfl rfl (by kernel_rfl) (by kernel_rfl) (by kernel_rfl) (by rfl) ?_ (by assumption) ?_; rotate_left; (focus (intro w0 hSw; (try dsimp only at hSw); go_simp; (try with_reducible rfl); done)); try simp only [Act.put, List.setIfInBounds_toArray, List.set_cons_zero, List.set_cons_succ]); (refine take_t (i := 7) (d := 45) (oi := _) (v := ?_) rfl rfl (by kernel_rfl) (by kernel_rfl) (by kernel_rfl) (by rfl) ?_ (by assumption) ?_; rotate_left; (focus (intro w0 hSw; (try dsimp only at hSw); go_simp; (try with_reducible rfl); done)); try simp only [Act.put, List.setIfInBounds_toArray, List.set_cons_zero, List.set_cons_succ]); (refine take_t (i := 8) (d := 46) (oi := _) (v := ?_) rfl rfl (by kernel_rfl) (by kernel_rfl) (by kernel_rfl) (by rfl) ?_ (by assumption) ?_; rotate_left; (focus (intro w0 hSw; (try dsimp only at hSw); go_simp; (try with_reducible rfl); done)); try simp only [Act.put, List.setIfInBounds_toArray, List.set_cons_zero, List.set_cons_succ]); (refine take_t (i := 9) (d := 47) (oi := _) (v := ?_) rfl rfl (by kernel_rfl) (by kernel_rfl) (by kernel_rfl) (by rfl) ?_ (by assumption) ?_; rotate_left; (focus (intro w0 hSw; (try dsimp only at hSw); go_simp; (try with_reducible rfl); done)); try simp only [Act.put, List.setIfInBounds_toArray, List.set_cons_zero, List.set_cons_succ]); (refine take_t (i := 10) (d := 48) (oi := _) (v := ?_) rfl rfl (by kernel_rfl) (by kernel_rfl) (by kernel_rfl) (by rfl) ?_ (by assumption) ?_; rotate_left; (focus (intro w0 hSw; (try dsimp only at hSw); go_simp; (try with_reducible rfl); done)); try simp only [Act.put, List.setIfInBounds_toArray, List.set_cons_zero, List.set_cons_succ]); (refine take_t (i := 11) (d := 49) (oi := _) (v := ?_) rfl rfl (by kernel_rfl) (by kernel_rfl) (by kernel_rfl) (by rfl) ?_ (by assumption) ?_; rotate_left; (focus (intro w0 hSw; (try dsimp only at hSw); go_simp; (try with_reducible rfl); done)); try simp only [Act.put, List.setIfInBounds_toArray, List.set_cons_zero, List.set_cons_succ]); (refine wpAnyH_ready (rs := [12]) (by kernel_rfl) (by simp) ?_; refine AllReadyH.cons (o := _) rfl (fun K' hK => ?_) AllReadyH.nil; go_simp; (go_at_call 31; (with_reducible refine (htx.out _).mono ?_); rintro e' w3 ⟨rfl, b3⟩; have hb3 := belowCont hb.out.drew b3); (try dsimp only); refine hK.out _ _ ?_ (fun hHeld2 => ?_); (focus ((try dsimp only); (first | exact ⟨hb.out.drew, d0⟩ | exact ⟨hb3, (b3.cell (p := ⟨b, o + i, none⟩) (Nat.lt_of_lt_of_le hbl hb.out.size)).trans d0⟩); done)); clear hK K'; clear hHeld; have hHeld := hHeld2; clear hHeld2; try simp only [Act.put, List.setIfInBounds_toArray, List.set_cons_zero, List.set_cons_succ]); (refine take_t (i := 13) (d := 51) (oi := _) (v := ?_) rfl rfl (by kernel_rfl) (by kernel_rfl) (by kernel_rfl) (by rfl) ?_ (by assumption) ?_; rotate_left; (focus (intro w0 hSw; (try dsimp only at hSw); go_simp; (try with_reducible rfl); done)); try simp only [Act.put, List.setIfInBounds_toArray, List.set_cons_zero, List.set_cons_succ]); (refine take_t (i := 14) (d := 7) (oi := _) (v := ?_) rfl rfl (by kernel_rfl) (by kernel_rfl) (by kernel_rfl) (by rfl) ?_ (by assumption) ?_; rotate_left; (focus (intro w0 hSw; (try dsimp only at hSw); go_simp; (try with_reducible rfl); done)); try simp only [Act.put, List.setIfInBounds_toArray, List.set_cons_zero, List.set_cons_succ]); refine wpAnyH_done (by kernel_rfl) ?_ _; refine NoPanic.normal ?_
          have hb4 := hHeld.1
          clear hHeld d0
          replace hb := Lib.hid hb4
          go_wp2_with fail
          go_roundg g
          case rel => exact ⟨i + 1, _, by go_num, by omega, rfl, hE2.out, hl2.out, hl3.out, hb.out⟩
          case measure => omega
end Go.Proofs.Ytdgpalileloekaa.names
