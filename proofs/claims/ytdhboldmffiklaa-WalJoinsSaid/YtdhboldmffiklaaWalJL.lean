/- Blocks of which one is missing at the end of a record, or holds something else, are no records: the law WalJoins. No condition. -/
import Derived.Test.YtdhboldmffiklaaWalJ
namespace Go.Proofs.Ytdhboldmffiklaa.wal
open Go.RowKit
attribute [local go_sem ↓] Go.wp_at_zero Go.wp_at_succ
attribute [local go_sem] str_size str_bl str_append
set_option linter.unusedVariables false
set_option maxRecDepth 100000

theorem or512 (a : Int) : ∃ j : Nat, bits .and .i64 (bits .or .i64 a 512) 8191 = (j : Int) ∧ 512 ≤ j ∧ j < 8192 := by
  have e : bits .or .i64 a 512 = IntKind.i64.wrap ((BitVec.ofInt 64 a ||| BitVec.ofInt 64 512).toNat : Int) := rfl
  obtain ⟨N, hN⟩ : ∃ N, N = (BitVec.ofInt 64 a ||| BitVec.ofInt 64 512).toNat := ⟨_, rfl⟩
  have ht : N.testBit 9 = true := by
    rw [hN, BitVec.toNat_or, Nat.testBit_or]
    have : (BitVec.ofInt 64 512).toNat.testBit 9 = true := by decide
    rw [this]; simp
  have hm : (N % 2 ^ 13).testBit 9 = true := by
    rw [Nat.testBit_mod_two_pow, ht]; decide
  have hge := Nat.ge_two_pow_of_testBit hm
  refine ⟨N % 8192, ?_, hge, Nat.mod_lt _ (by decide)⟩
  rw [and_8191, e, ← hN, IntKind.wrap_i64]; omega
/-- changes that came in -/
theorem arg_changes {w : World} {a : Option Addr} {len cap : Nat} (h : SliceArg w a len 3 (fun j v => match j with | 0 => ∃ x, v = .string x ∧ x.size ≤ maxLen | 1 => ∃ x, v = .string x ∧ x.size ≤ maxLen | 2 => ∃ x, v = .bool x | _ => False)) (hlen : len ≤ 140737488355328) :
    ∃ l : List Ch, l.length = len ∧ Sl w (.slice a len cap) len (chCells l) :=
  h.sl chC chC_len (by decide) hlen (fun vs hv => by
    obtain ⟨x0, e0, _⟩ := hv 0 (by decide)
    obtain ⟨x1, e1, _⟩ := hv 1 (by decide)
    obtain ⟨x2, e2⟩ := hv 2 (by decide)
    refine ⟨⟨x0.data.toList, x1.data.toList, x2⟩, fun j hj => ?_⟩
    match j, hj with
    | 0, _ => rw [e0]; rfl
    | 1, _ => rw [e1]; rfl
    | 2, _ => rw [e2]; rfl)
theorem chCells_one (l : List Ch) : ∀ u ∈ chCells l, u.oneCell' = true := fun u hu => by
  obtain ⟨c, _, hc⟩ := List.mem_flatMap.1 hu
  exact chC_one c u hc
theorem chCells_len' (a : List Ch) : (chCells a).length = a.length * 3 := flat_len chC 3 chC_len a
/-- a row's slice, and its first elements -/
theorem rowCut {W : World} {base : Nat} {e : TypeId} {v : Value} {n : Nat} {xs : List Value} (h : W.ownsRow base e 1 v n xs) (hn : 0 < n) : ∃ b cap, v = .slice (some ⟨b, 0, none⟩) n cap ∧ n ≤ cap ∧ ∀ W', Below W.heap.size W W' → ∀ m, m ≤ n → n ≤ 140737488355328 → Sl W' (.slice (some ⟨b, 0, none⟩) m cap) m (xs.take m) := by
  rcases h.2 with ⟨_, h0⟩ | ⟨g, cap, cur, rfl, hb, hg, hc, hx⟩
  · omega
  · refine ⟨g, cap, rfl, hc, fun W' hW m hm hmx => ⟨_, cap, rfl, by omega, .inr ⟨g, 0, rfl, Nat.lt_of_lt_of_le (block_lt hg) hW.size, fun j u hu => ?_⟩⟩⟩
    have hu2 : xs[j]? = some u := by
      rw [List.getElem?_take] at hu
      split at hu
      · exact hu
      · cases hu
    have := World.ownsRow.cells h (g := g) rfl j u hu2
    rw [addr_add, Nat.zero_add] at this
    rw [Nat.zero_add]
    exact (hW.cell (p := ⟨g, j, none⟩) (block_lt hg)).trans this
theorem recL_long (l : List Ch) (c : Ch) (r : List Ch) (h : l = c :: r) (hm : mayL l = true) (hv : 512 ≤ c.v.length) : 461 < (recL l).length := by
  obtain ⟨_, _, q3⟩ := mayL_all hm
  have hck := q3 c (by rw [h]; simp)
  simp only [chOk, decide_eq_true_eq] at hck
  have hg : c.g = false := by
    cases hg : c.g with
    | false => rfl
    | true => have := hck.2.2.2 hg; rw [this] at hv; simp at hv
  unfold recL
  rw [List.length_append, h, List.flatMap_cons, List.length_append]
  have : c.v.length ≤ (chB c).length := by
    unfold chB
    rw [hg]
    simp [code.textL]; omega
  omega
theorem split_first (s : List UInt8) (h : 461 < s.length) : ∃ x rest, splitL s = (0 :: x) :: rest ∧ x.length ≤ 461 ∧ rest ≠ [] :=
  ⟨s.take 461, _, splitL_long s (by omega), by rw [List.length_take]; omega, splitL_ne _⟩
theorem litSl (W : World) (s : List UInt8) : Sl (W.alloc (.cells #[.string (str s)] 9)) (.slice (some ⟨W.heap.size, 0, none⟩) 1 1) 1 (strsV [s]) :=
  ((Hp.none_ W []).rowLit #[.string (str s)] 9 1 1 (by decide) rfl).sl (i := 0) rfl (by decide)
theorem litSl0 (W : World) : Sl (W.alloc (.cells #[.string ByteArray.empty] 9)) (.slice (some ⟨W.heap.size, 0, none⟩) 1 1) 1 (strsV [[]]) := litSl W []
theorem strsV_one (l : List (List UInt8)) : ∀ u ∈ strsV l, u.oneCell' = true := fun u hu => by
  obtain ⟨s, _, rfl⟩ := List.mem_map.1 hu
  rfl
def cA : Ch := ⟨[97], [98], false⟩
theorem cut_first (l : List Ch) (j : Nat) (hj : 512 ≤ j) : ∃ c r, cutL (cA :: l) j = c :: r ∧ 512 ≤ c.v.length := by
  have h0 := cutL_get (cA :: l) j 0 cA rfl (by decide)
  cases hc : cutL (cA :: l) j with
  | nil => rw [hc] at h0; cases h0
  | cons c r =>
    rw [hc] at h0
    refine ⟨c, r, rfl, ?_⟩
    simp at h0
    rw [h0]
    simp [cutAt, cA]; omega
set_option maxHeartbeats 8000000 in
theorem walJoins_walk (a0 : Option Addr) (len0 cap0 : Nat) (a1 : Int) (a2 : ByteArray) (w : World) (w0 : SliceArg w a0 len0 3 (fun j v => match j with | 0 => ∃ x, v = .string x ∧ x.size ≤ maxLen | 1 => ∃ x, v = .string x ∧ x.size ≤ maxLen | 2 => ∃ x, v = .bool x | _ => False)) (z0 : len0 * Try.prog.bytesOf 63 ≤ reachBytes) (w1 : (Lit.int .i64 a1).wf = true) (w2 : a2.size ≤ reachBytes) :
    Calls Try.prog 11 #[.slice a0 len0 cap0, .int .i64 a1, .string a2] w fun e w' => e = .returned (.bool true) ∧ Below w.heap.size w w' := by
  have hby : Try.prog.bytesOf 63 = 40 := by kernel_rfl
  rw [hby] at z0
  unfold reachBytes at z0
  obtain ⟨l, hll, hsl⟩ := arg_changes (cap := cap0) w0 (by omega)
  obtain ⟨j, hj, hj1, hj2⟩ := or512 a1
  obtain ⟨X, hX⟩ : ∃ X, X = cutL (cA :: l) j := ⟨_, rfl⟩
  obtain ⟨cf, rf, hcf, hcv⟩ : ∃ c r, X = c :: r ∧ 512 ≤ c.v.length := by rw [hX]; exact cut_first l j hj1
  have hcut : ∀ W v, Sl W v (1 + len0) (chC cA ++ chCells l) → Calls Try.prog 62 #[v, .int .i64 (bits .or .i64 a1 512)] W (CutF W X) := fun W v h => by
    rw [hX]
    refine cutf_any (cA :: l) v _ j hj hj2 W ?_
    have e : (cA :: l).length = 1 + len0 := by simp [hll]; omega
    rw [e]; exact h
  have hp := (Hp.none_ w []).rowLit #[.string ⟨#[97]⟩, .string ⟨#[98]⟩, .bool false] 63 3 1 (by decide) rfl
  have hsl1 : Sl (w.alloc (.cells #[.string ⟨#[97]⟩, .string ⟨#[98]⟩, .bool false] 63)) (.slice a0 len0 cap0) len0 (chCells l) := hsl.below ((Below.refl _ _).alloc (Nat.le_refl _) _)
  have hlb : (chCells l).length = len0 * 3 := by rw [chCells_len', hll]
  have hl1 : (1 + len0) * 40 ≤ 140737488355328 := by omega
  have hl2 : 1 + len0 ≤ 140737488355328 := by omega
  have hone := chCells_one l
  obtain ⟨O, hO⟩ : ∃ O, O = a2.data.toList.take 100 := ⟨_, rfl⟩
  have hOl : O.length ≤ 100 := by rw [hO, List.length_take]; omega
  have xO : a2.extract 0 (min (a2.size : Int) 100).toNat = str O := by
    rw [hO, cut_text]
    have hl : a2.data.toList.length = a2.size := by rw [Array.length_toList]; rfl
    congr 1
    rw [List.take_eq_take_iff]; omega
  have xO0 : a2.extract 0 0 = str [] := by rw [cut_text]; rfl
  have m1 : (0 : Int) ≤ min (a2.size : Int) 100 := by omega
  have m2 : min (a2.size : Int) 100 ≤ (a2.size : Int) := by omega
  have hj4 : ∀ W, Calls Try.prog 64 #[.slice none 0 0] W (JoinRet W []) := fun W => join_any [] [] .none (by decide) _ W (Sl.nil W)
  have m3 : ¬ 9223372036854775807 < 1 + O.length := by omega
  clear hO w2 z0 hll hsl w0
  by_cases hyes : mayL X = true ∧ (recL X).length ≤ 16384
  · have hpl : putL X = recL X := by unfold putL; rw [if_pos hyes]
    have hlong := recL_long X cf rf hcf hyes.1 hcv
    have hrput := fun v W h => rput_any v X W h
    rw [hpl] at hrput
    have hM16 := hyes.2
    have hne : recL X ≠ [] := fun h => by rw [h] at hlong; simp at hlong
    clear hX hpl hyes
    generalize recL X = M at *
    have n1 : M.isEmpty = false := by cases M <;> simp at hne ⊢
    have n2 : (M == []) = false := by simpa using hne
    have n5 : (M != []) = true := by simpa using hne
    obtain ⟨x0, rest, hP, hx0, hrest⟩ := split_first M hlong
    have hsplit := fun W => split_any M (by omega) W
    have hb1 := bad_split M.length true [] M (Nat.le_refl _) (by simpa using hM16) (.inr hlong)
    have hPl := splitL_len M.length M (Nat.le_refl _)
    generalize splitL M = P at *
    obtain ⟨n, hn⟩ : ∃ n, n = P.length := ⟨_, rfl⟩
    obtain ⟨m, hm⟩ : ∃ m, m = P.dropLast.length := ⟨_, rfl⟩
    have hnm : n = m + 1 := by rw [hn, hm, List.length_dropLast, hP]; simp
    have hm1 : 1 ≤ m := by
      rw [hm, List.length_dropLast, hP]
      cases rest with
      | nil => exact absurd rfl hrest
      | cons _ _ => simp
    have hdl : P.dropLast = P.take m := by rw [List.dropLast_eq_take]; congr 1; omega
    have htk : (strsV P).take m = strsV P.dropLast := by rw [hdl]; simp [strsV, List.map_take]
    have htk1 : (strsV P).take 1 = strsV [0 :: x0] := by rw [hP]; simp [strsV]
    have q1 : ¬ ((n : Int) < 2) := by omega
    have q2 : IntKind.i64.wrap ((n : Int) - 1) = (m : Int) := by rw [IntKind.wrap_i64]; omega
    have q3 : wrap64 ((n : Int) - 1) = (m : Int) := by unfold wrap64; omega
    have q4 : (0 : Int) ≤ (m : Int) := by omega
    have hn1 : n ≤ 1000000 := by omega
    have hb2 : Bad true [] [0 :: x0, []] := .more (by simp) hx0 .hole
    have hb3 : Bad true [] [2 :: O] := .odd (by simp) (by omega)
    have hj1' : ∀ W v, Sl W v m (strsV P.dropLast) → Calls Try.prog 64 #[v] W fun e w' => e = .returned (.tuple #[.slice none 0 0, .int .i64 3]) ∧ Below W.heap.size W w' := fun W v h => join_bad P.dropLast hb1 (by omega) v W (by rw [← hm]; exact h)
    have hj2' : ∀ W v, Sl W v 2 (strsV [0 :: x0, []]) → Calls Try.prog 64 #[v] W fun e w' => e = .returned (.tuple #[.slice none 0 0, .int .i64 3]) ∧ Below W.heap.size W w' := fun W v h => join_bad _ hb2 (by simp) v W h
    have hj3' : ∀ W v, Sl W v 1 (strsV [2 :: O]) → Calls Try.prog 64 #[v] W fun e w' => e = .returned (.tuple #[.slice none 0 0, .int .i64 3]) ∧ Below W.heap.size W w' := fun W v h => join_bad _ hb3 (by simp) v W h
    rw [← hn] at hPl
    have hsplit' : ∀ W, Calls Try.prog 66 #[.string (str M)] W fun e w' => ∃ v, e = .returned v ∧ Hp W [] [.row 9 1 v n (strsV P)] w' := fun W => by
      have := hsplit W
      unfold SplitRet at this
      rwa [← hn] at this
    have hn0 : 0 < n := by omega
    replace hp := Lib.hid hp; replace hsl1 := Lib.hid hsl1; replace hlb := Lib.hid hlb; replace hl1 := Lib.hid hl1; replace hl2 := Lib.hid hl2; replace hone := Lib.hid hone; replace hcut := Lib.hid hcut; replace hrput := Lib.hid hrput; replace hsplit' := Lib.hid hsplit'; replace hj1' := Lib.hid hj1'; replace hj2' := Lib.hid hj2'; replace hj3' := Lib.hid hj3'; replace hj4 := Lib.hid hj4; replace htk := Lib.hid htk; replace htk1 := Lib.hid htk1; replace hn1 := Lib.hid hn1; replace hn0 := Lib.hid hn0; replace hm1 := Lib.hid hm1; replace hnm := Lib.hid hnm
    clear hsplit hb1 hb2 hb3 hP hx0 hrest hn hm hdl hPl hlong hM16 hne hcf hcv hOl
    go_enter Try.func11, Try.ntmps11
    go_upto_if 30 with (first
      | (at_builtin; go_loud (refine wpList_append_big_hp rfl _ _ rfl Try.underlying54 changeInfo rfl (by decide) hp.out 0 rfl rfl rfl hsl1.out hlb.out hone.out hl1.out hl2.out ?_; intro v2 w3 hp3 hv; have hs3 := Lib.hid (hp3.sl (i := 0) rfl hl2.out); replace hp := Lib.hid hp3.bel; clear hp3; obtain ⟨ad2, cap2, rfl⟩ := hv))
      | (go_at_call 62; go_loud ((with_reducible refine (hcut.out _ _ hs3.out).mono ?_); rintro e w4 ⟨vx, rfl, hsx, b4⟩; replace hp := Lib.hid (belowCont hp.out b4); replace hsx := Lib.hid hsx; clear hs3 b4))
      | (go_at_call 63; go_loud ((with_reducible refine (hrput.out _ _ hsx.out).mono ?_); rintro e w5 ⟨rfl, b5⟩; replace hp := Lib.hid (belowCont hp.out b5); clear b5 hsx)))
    clear hsl1 hlb hl1 hl2 hone hcut hrput
    have hone2 : (⟨#[2]⟩ : ByteArray) ++ str O = str (2 :: O) := str_append [2] O
    go_wp2_with (first
      | (go_at_call 66; go_loud ((with_reducible refine (hsplit'.out _).mono ?_); rintro e w6 ⟨v6, rfl, h6⟩; obtain ⟨b6, cap6, rfl, hcap6, hc6⟩ := rowCut (h6.row (i := 0) rfl) hn0.out; replace hp := Lib.hid (belowCont hp.out h6.bel); have s1 : ∀ W, Below w6.heap.size w6 W → Sl W (.slice (some ⟨b6, 0, none⟩) m cap6) m (strsV P.dropLast) := fun W h => (by have := hc6 W h m (by have := hnm.out; omega) (by have := hn1.out; omega); rwa [htk.out] at this); have s2 : ∀ W, Below w6.heap.size w6 W → Sl W (.slice (some ⟨b6, 0, none⟩) 1 cap6) 1 (strsV [0 :: x0]) := fun W h => (by have := hc6 W h 1 (by have := hnm.out; omega) (by have := hn1.out; omega); rwa [htk1.out] at this); have q5 : (m : Int) ≤ (cap6 : Int) := (by have := hnm.out; omega); have q6 : (1 : Int) ≤ (cap6 : Int) := (by have := hnm.out; omega); have hb := Lib.hid (Below.refl w6.heap.size w6); replace s1 := Lib.hid s1; replace s2 := Lib.hid s2; clear hc6 h6 hcap6))
      | (go_at_call 64; ((with_reducible refine (hj1'.out _ _ (s1.out _ hb.out)).mono ?_)); rintro e w7 ⟨rfl, b7⟩; replace hb := Lib.hid (belowCont hb.out b7); clear b7)
      | (at_builtin; refine wpList_append_sl_hp rfl _ _ rfl Try.underlying28 strInfo' rfl (by decide) (by decide) ((Hp.none_ _ []).rowLit #[] 9 1 0 (by decide) rfl) 0 rfl rfl rfl (s2.out _ (hb.out.alloc hb.out.size _)) rfl (strsV_one _) (by decide) ?_; intro v8 w8 hp8 hv8; have hq := Lib.hid hp8; clear hp8; obtain ⟨ad8, cap8, rfl⟩ := hv8)
      | (at_builtin; go_loud (refine wpList_append_hp rfl _ _ rfl Try.underlying28 strInfo' rfl (by decide) (by decide) (hq.out.alloc_ (.cells #[.string ⟨#[]⟩] 9)) 0 rfl rfl _ _ [.string ⟨#[]⟩] rfl rfl (block_cells (heap_alloc_new _ _)) (by intro u hu; simp at hu; subst hu; rfl) (by decide) ?_; intro v9 w9 hp9 hv9; have s9 : Sl w9 v9 2 (strsV [0 :: x0, []]) := hp9.sl (i := 0) rfl (by decide); replace s9 := Lib.hid s9; replace hb := Lib.hid (belowCont hb.out hp9.bel); clear hp9 hq; obtain ⟨ad9, cap9, rfl⟩ := hv9))
      | (go_at_call 64; ((with_reducible refine (hj2'.out _ _ s9.out).mono ?_)); rintro e w10 ⟨rfl, b10⟩; replace hb := Lib.hid (belowCont hb.out b10); clear b10 s9)
      | (go_at_call 64; ((with_reducible refine (hj3'.out _ _ (litSl _ _)).mono ?_)); rintro e w11 ⟨rfl, b11⟩; replace hb := Lib.hid ((hb.out.alloc hb.out.size _).trans (b11.mono (hb.out.alloc hb.out.size _).size)); clear b11)
      | (go_at_call 64; (with_reducible refine (hj4.out _).mono ?_); rintro e w12 ⟨v12, vals, rfl, hv12, h12⟩; obtain ⟨ad12, cap12, rfl⟩ := rowShape (h12.row (i := 0) rfl); replace hb := Lib.hid (belowCont hb.out h12.bel); clear h12 hv12)
      | (go_at_call 65; (with_reducible refine (awake_any _).mono ?_); rintro e w13 ⟨rfl, b13⟩; replace hb := Lib.hid (belowCont hb.out b13); clear b13))
    go_ret
    exact ⟨rfl, belowCont hp.out hb.out⟩
  · have hpl : putL X = [] := by unfold putL; rw [if_neg hyes]
    have hrput := fun v W h => rput_any v X W h
    rw [hpl] at hrput
    have hj5 : ∀ W v, Sl W v 1 (strsV [[]]) → Calls Try.prog 64 #[v] W fun e w' => e = .returned (.tuple #[.slice none 0 0, .int .i64 3]) ∧ Below W.heap.size W w' := fun W v h => join_bad [[]] .hole (by simp) v W h
    replace hp := Lib.hid hp; replace hsl1 := Lib.hid hsl1; replace hlb := Lib.hid hlb; replace hl1 := Lib.hid hl1; replace hl2 := Lib.hid hl2; replace hone := Lib.hid hone; replace hcut := Lib.hid hcut; replace hrput := Lib.hid hrput; replace hj5 := Lib.hid hj5
    clear hX hpl hyes hcf hcv hj4
    go_enter Try.func11, Try.ntmps11
    go_wp2_with (first
      | (at_builtin; go_loud (refine wpList_append_big_hp rfl _ _ rfl Try.underlying54 changeInfo rfl (by decide) hp.out 0 rfl rfl rfl hsl1.out hlb.out hone.out hl1.out hl2.out ?_; intro v2 w3 hp3 hv; have hs3 := Lib.hid (hp3.sl (i := 0) rfl hl2.out); replace hp := Lib.hid hp3.bel; clear hp3; obtain ⟨ad2, cap2, rfl⟩ := hv))
      | (go_at_call 62; go_loud ((with_reducible refine (hcut.out _ _ hs3.out).mono ?_); rintro e w4 ⟨vx, rfl, hsx, b4⟩; replace hp := Lib.hid (belowCont hp.out b4); replace hsx := Lib.hid hsx; clear hs3 b4))
      | (go_at_call 63; go_loud ((with_reducible refine (hrput.out _ _ hsx.out).mono ?_); rintro e w5 ⟨rfl, b5⟩; replace hp := Lib.hid (belowCont hp.out b5); clear b5 hsx))
      | (go_at_call 64; ((with_reducible refine (hj5.out _ _ (litSl0 _)).mono ?_)); rintro e w11 ⟨rfl, b11⟩; replace hp := Lib.hid ((hp.out.alloc hp.out.size _).trans (b11.mono (hp.out.alloc hp.out.size _).size)); clear b11)
      | (go_at_call 65; (with_reducible refine (awake_any _).mono ?_); rintro e w13 ⟨rfl, b13⟩; replace hp := Lib.hid (belowCont hp.out b13); clear b13))
    go_ret
    exact ⟨rfl, hp.out⟩
end Go.Proofs.Ytdhboldmffiklaa.wal
