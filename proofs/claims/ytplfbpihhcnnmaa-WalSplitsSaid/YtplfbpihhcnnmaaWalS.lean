/- What a record's blocks hold is the document's, and records behind one another come back: the law WalSplits. No condition. -/
import Derived.Test.YtplfbpihhcnnmaaWal8
import Derived.Test.YtplfbpihhcnnmaaWalH
import Derived.Test.YtplfbpihhcnnmaaApp
namespace Go.Proofs.Ytplfbpihhcnnmaa.wal
open Go.RowKit
attribute [local go_sem ↓] Go.wp_at_zero Go.wp_at_succ
attribute [local go_sem] str_size str_bl str_append
set_option linter.unusedVariables false
set_option maxRecDepth 100000

theorem blocks_any (s : List UInt8) (hs : s.length ≤ 1000000) (w : World) : Calls Try.prog 14 #[.string (str s)] w fun e w' => e = .returned (.int .i64 ((splitL s).length : Int)) ∧ Below w.heap.size w w' := by
  have hc := splitL_count s.length s (Nat.le_refl _)
  obtain ⟨n, hn⟩ : ∃ n, n = (splitL s).length := ⟨_, rfl⟩
  rw [← hn] at hc ⊢
  have e4 : max (1 : Int) (((s.length : Int) + 461 - 1) / 461) = ((max 1 ((s.length + 460) / 461) : Nat) : Int) := by omega
  go_enter Try.func14, Try.ntmps14
  go_wp2
  go_ret
  exact ⟨by show Ending.returned (Value.int .i64 ((max 1 ((s.length + 460) / 461) : Nat) : Int)) = _; rw [← hc], Below.refl _ _⟩
theorem rest_append : ∀ {P : List UInt8} {B : List (List UInt8)} {rs : List (List Ch)}, Rest P B rs → ∀ {C : List (List UInt8)} {r2 : List (List Ch)}, Rest [] C r2 → Rest P (B ++ C) (rs ++ r2) := by
  intro P B rs h
  induction h with
  | none => intro C r2 h2; exact h2
  | more h1 h3 h4 h5 ih => intro C r2 h2; exact .more h1 h3 h4 (ih h2)
  | last h1 h3 h4 h5 h6 ih => intro C r2 h2; exact .last h1 h3 h4 h5 (ih h2)
theorem strsV_one' (l : List (List UInt8)) : ∀ u ∈ strsV l, u.oneCell' = true := fun u hu => by
  obtain ⟨s, _, rfl⟩ := List.mem_map.1 hu
  rfl
theorem strsV_len (l : List (List UInt8)) : (strsV l).length = l.length := by simp [strsV]
theorem split_le (s : List UInt8) : ∀ p, p ∈ splitL s → p.length ≤ 462 := by
  have : ∀ (n : Nat) (s : List UInt8), s.length ≤ n → ∀ p, p ∈ splitL s → p.length ≤ 462 := by
    intro n
    induction n with
    | zero =>
      intro s h p hp
      rw [splitL_short s (by omega)] at hp
      simp at hp; subst hp; simp; omega
    | succ n ih =>
      intro s h p hp
      by_cases h1 : s.length ≤ 461
      · rw [splitL_short s h1] at hp
        simp at hp; subst hp; simp; omega
      · rw [splitL_long s h1] at hp
        rcases List.mem_cons.1 hp with rfl | h2
        · simp; omega
        · exact ih _ (by rw [List.length_drop]; omega) p h2
  exact this s.length s (Nat.le_refl _)
/-- what a law's slice of slices holds at a place -/
theorem inner_at {w : World} {a : Option Addr} {len : Nat} {Q : Nat → Value → Prop} (h : SliceArg w a len 1 (fun _ v => ∃ sa sl sc, v = .slice sa sl sc ∧ SliceArg w sa sl 3 Q)) {i : Nat} (hi : i < len) : ∃ b o sa sl sc, a = some ⟨b, o, none⟩ ∧ b < w.heap.size ∧ w.cell? ⟨b, o + i, none⟩ = some (.slice sa sl sc) ∧ SliceArg w sa sl 3 Q := by
  obtain ⟨_, h2⟩ := h
  obtain ⟨b, o, rfl, hlt, hc⟩ := h2.resolve_left (by omega)
  obtain ⟨v, hv, sa, sl, sc, rfl, hs⟩ := hc i hi 0 (by omega)
  exact ⟨b, o, sa, sl, sc, rfl, hlt, by simpa using hv, hs⟩
theorem int_at {w : World} {a : Option Addr} {len : Nat} (h : SliceArg w a len 1 (fun _ v => ∃ x, v = .int .i64 x ∧ (Lit.int .i64 x).wf = true)) {i : Nat} (hi : i < len) : ∃ b o n, a = some ⟨b, o, none⟩ ∧ b < w.heap.size ∧ w.cell? ⟨b, o + i, none⟩ = some (.int .i64 n) := by
  obtain ⟨_, h2⟩ := h
  obtain ⟨b, o, rfl, hlt, hc⟩ := h2.resolve_left (by omega)
  obtain ⟨v, hv, n, rfl, _⟩ := hc i hi 0 (by omega)
  exact ⟨b, o, n, rfl, hlt, by simpa using hv⟩
theorem row_cell {w : World} {base : Nat} {e : TypeId} {size n b cap : Nat} {xs : List Value} (h : w.ownsRow base e size (.slice (some ⟨b, 0, none⟩) n cap) n xs) : ∀ j u, xs[j]? = some u → w.cell? ⟨b, j, none⟩ = some u := fun j u hu => by
  have := World.ownsRow.cells h (g := b) rfl j u hu
  rwa [addr_add, Nat.zero_add] at this
theorem rest_le : ∀ {P : List UInt8} {B : List (List UInt8)} {rs : List (List Ch)}, Rest P B rs → ∀ l, l ∈ rs → l.length ≤ 256 := by
  intro P B rs h
  induction h with
  | none => intro l hl; simp at hl
  | more _ _ _ _ ih => exact ih
  | @last P x rem recs l _ _ hm _ _ ih =>
    intro y hy
    rcases List.mem_cons.1 hy with rfl | hy
    · unfold mayL at hm
      simp only [Bool.and_eq_true, decide_eq_true_eq] at hm
      exact hm.1.2
    · exact ih y hy
/-- what stands at the loop's head: the blocks so far, the records wanted -/
structure Sp (w wr : World) (v5 v6 : Value) (B : List (List UInt8)) (recs : List (List Ch)) (vals : List Value) : Prop where
  rest : Rest [] B recs
  len : vals.length = recs.length
  hp : Hp w [] (.row 9 1 v5 B.length (strsV B) :: .row 25 1 v6 recs.length vals :: rowsOf vals recs) wr
set_option maxHeartbeats 16000000 in
theorem walSplits_walk (a0 : Option Addr) (len0 cap0 : Nat) (a1 : Option Addr) (len1 cap1 : Nat) (w : World) (w0 : SliceArg w a0 len0 1 (fun _ v => ∃ sa sl sc, v = .slice sa sl sc ∧ SliceArg w sa sl 3 (fun j v => match j with | 0 => ∃ x, v = .string x ∧ x.size ≤ maxLen | 1 => ∃ x, v = .string x ∧ x.size ≤ maxLen | 2 => ∃ x, v = .bool x | _ => False))) (w1 : SliceArg w a1 len1 1 (fun _ v => ∃ x, v = .int .i64 x ∧ (Lit.int .i64 x).wf = true)) :
    Calls Try.prog 3 #[.slice a0 len0 cap0, .slice a1 len1 cap1] w fun e w' => e = .returned (.bool true) ∧ Below w.heap.size w w' := by
  have hz0 := w0.1; have hz1 := w1.1
  have hp := (((Hp.none_ w []).rowLit #[] 9 1 0 (by decide) rfl).rowLit #[] 25 1 0 (by decide) rfl).perm (List.Perm.swap _ _ _)
  rw [show (w.alloc (.cells #[] 9)).heap.size = w.heap.size + 1 by simp] at hp
  replace w0 := Lib.hid w0; replace w1 := Lib.hid w1; replace hp := Lib.hid hp
  go_enter Try.func3, Try.ntmps3
  go_wp2
  go_loopg [5, 6, 7] (min (min len0 len1) 5) (fun gn s5 s6 s7 wr => ∃ (i : Nat) (B : List (List UInt8)) (recs : List (List Ch)) (vals : List Value) (ad5 ad6 : Option Addr) (cp5 cp6 : Nat), s7 = .int .i64 (i : Int) ∧ i + gn = min (min len0 len1) 5 ∧ s5 = .slice ad5 B.length cp5 ∧ s6 = .slice ad6 recs.length cp6 ∧ Sp w wr (.slice ad5 B.length cp5) (.slice ad6 recs.length cp6) B recs vals ∧ recs.length ≤ i ∧ B.length ≤ 36 * i)
  case atStart => exact ⟨0, [], [], [], _, _, _, _, rfl, by omega, rfl, rfl, ⟨.none, rfl, hp.out⟩, Nat.le_refl _, Nat.le_refl _⟩
  case round =>
    clear hp
    obtain ⟨i, B, recs, vals, ad5, ad6, cp5, cp6, rfl, hik, rfl, rfl, ⟨hrest, hvl, hp⟩, hrl, hBl⟩ := hrel
    by_cases hi : i < len0 ∧ i < len1 ∧ i < 5
    · obtain ⟨hi0, hi1, hi2⟩ := hi
      obtain ⟨Ko, rfl⟩ : ∃ K : Nat, gk = K + 1 := ⟨gk - 1, by omega⟩
      obtain ⟨b, o, sa, sl, sc, rfl, hlt, hc0, hin⟩ := inner_at w0.out hi0
      obtain ⟨b1, o1, n1, rfl, hlt1, hc1⟩ := int_at w1.out hi1
      have d0 : wr.cell? ⟨b, o + i, none⟩ = some (.slice sa sl sc) := (hp.bel.cell hlt).trans hc0
      have d1 : wr.cell? ⟨b1, o1 + i, none⟩ = some (.int .i64 n1) := (hp.bel.cell hlt1).trans hc1
      have e0 : (0 : Int) ≤ (i : Int) := by omega
      have e1 : (i : Int) < (len0 : Int) := by omega
      have e2 : (i : Int) < (len1 : Int) := by omega
      have e3 : (i : Int) < 5 := by omega
      have hcut : Calls Try.prog 10 #[.slice sa sl sc, .int .i64 n1] wr.drew (CutH wr.drew) := cuth_any sa sl sc n1 wr.drew (hin.keep hp.bel.drew)
      replace hcut := Lib.hid hcut; replace hp := Lib.hid hp; replace hrest := Lib.hid hrest; replace hvl := Lib.hid hvl; replace hik := Lib.hid hik; replace hrl := Lib.hid hrl; replace hBl := Lib.hid hBl
      clear hc0 hc1 hin hlt hlt1
      go_upto_region 5 with fail
      go_cut [8] (fun s8 wx => ∃ ad8 cp8 x, s8 = .slice ad8 (List.length (α := Ch) x) cp8 ∧ x.length ≤ 12 ∧ Hp w [] (.row 100 3 (.slice ad8 x.length cp8) x.length (chCells x) :: .row 9 1 (.slice ad5 B.length cp5) B.length (strsV B) :: .row 25 1 (.slice ad6 recs.length cp6) recs.length vals :: rowsOf vals recs) wx)
      case first =>
        go_region_with (go_at_call 10; (with_reducible refine hcut.out.mono ?_); rintro e w2 ⟨v8, x, rfl, hx, h8⟩; obtain ⟨ad8, cp8, rfl⟩ := rowShape (h8.row (i := 0) rfl); have hpt := Lib.hid (hp.out.drew.take h8))
        all_goals (go_wp2_with fail; go_meet; exact ⟨ad8, cp8, x, rfl, hx, hpt.out⟩)
      case rest =>
        obtain ⟨ad8, cp8, x, rfl, hx, hp2⟩ := hcut
        clear hp d0 d1 e0 e1 e2 e3
        have hM16 : (putL x).length ≤ 16384 := by
          unfold putL
          split
          · rename_i h; exact h.2
          · simp
        have hyes : (putL x = [] ∨ (putL x ≠ [] ∧ mayL x = true ∧ (recL x).length ≤ 16384 ∧ putL x = recL x)) := by
          by_cases h : mayL x = true ∧ (recL x).length ≤ 16384
          · have e : putL x = recL x := by unfold putL; rw [if_pos h]
            by_cases h0 : putL x = []
            · exact .inl h0
            · exact .inr ⟨h0, h.1, h.2, e⟩
          · exact .inl (by unfold putL; rw [if_neg h])
        have hput := fun W h => rput_any (.slice ad8 x.length cp8) x W h
        generalize putL x = M at *
        have hsplit := fun W => split_any M (by omega) W
        have hrsplit := fun W => rsplit_any M (by omega) W
        have hblk := fun W => blocks_any M (by omega) W
        have hcount := splitL_count M.length M (Nat.le_refl _)
        have hple := split_le M
        have hrs : M ≠ [] → mayL x = true → (recL x).length ≤ 16384 → M = recL x → Rest [] (splitL M ++ []) [x] := fun _ h1 h2 h3 => rest_split x h1 h2 [] [] .none M.length [] M (Nat.le_refl _) h3
        unfold SplitRet at hsplit hrsplit
        generalize splitL M = P at *
        obtain ⟨n, hn⟩ : ∃ n, n = P.length := ⟨_, rfl⟩
        rw [← hn] at hcount
        simp only [← hn] at hsplit hrsplit hblk
        have hn0 : 0 < n := by omega
        have hn36 : n ≤ 36 := by omega
        have q1 : (n != n) = false := by simp
        replace hput := Lib.hid hput; replace hsplit := Lib.hid hsplit; replace hrsplit := Lib.hid hrsplit; replace hblk := Lib.hid hblk; replace hple := Lib.hid hple; replace hrs := Lib.hid hrs; replace hn := Lib.hid hn; replace hn0 := Lib.hid hn0; replace hn36 := Lib.hid hn36; replace hp2 := Lib.hid hp2; replace hyes := Lib.hid hyes; replace hx := Lib.hid hx
        clear hcount hM16
        go_wp2_with (first
          | (go_at_call 11; (with_reducible refine (hput.out _ (hp2.out.sl (i := 0) rfl (by have := hx.out; omega))).mono ?_); rintro e w3 ⟨rfl, b3⟩; replace hp2 := Lib.hid (hp2.out.below b3); clear b3)
          | (go_at_call 12; (with_reducible refine (hsplit.out _).mono ?_); rintro e w4 ⟨v4, rfl, h4⟩; replace hp2 := Lib.hid (hp2.out.take h4); obtain ⟨bl, cpl, rfl, _⟩ := rowCells (h4.row (i := 0) rfl) hn0.out; clear h4)
          | (go_at_call 13; (with_reducible refine (hrsplit.out _).mono ?_); rintro e w5 ⟨v5, rfl, h5⟩; replace hp2 := Lib.hid (hp2.out.take h5); obtain ⟨br, cpr, rfl, _⟩ := rowCells (h5.row (i := 0) rfl) hn0.out; clear h5)
          | (go_at_call 14; (with_reducible refine (hblk.out _).mono ?_); rintro e w6 ⟨rfl, b6⟩; replace hp2 := Lib.hid (hp2.out.below b6); clear b6))
        go_loopg [12] n (fun gn s12 wx => ∃ k : Nat, s12 = .int .i64 (k : Int) ∧ k + gn = n ∧ Hp w [] (.row 9 1 (.slice (some ⟨br, 0, none⟩) n cpr) n (strsV P) :: .row 9 1 (.slice (some ⟨bl, 0, none⟩) n cpl) n (strsV P) :: .row 100 3 (.slice ad8 x.length cp8) x.length (chCells x) :: .row 9 1 (.slice ad5 B.length cp5) B.length (strsV B) :: .row 25 1 (.slice ad6 recs.length cp6) recs.length vals :: rowsOf vals recs) wx)
        case atStart => exact ⟨0, rfl, by omega, hp2.out⟩
        case round =>
          clear hp2
          obtain ⟨k, rfl, hkn, hp⟩ := hrel
          by_cases hk : k < n
          · obtain ⟨K2, rfl⟩ : ∃ K : Nat, gk = K + 1 := ⟨gk - 1, by omega⟩
            obtain ⟨p, hpk⟩ : ∃ p, P[k]? = some p := ⟨_, List.getElem?_eq_getElem (by have := hn.out; omega)⟩
            have hpl := hple.out p (List.mem_of_getElem? hpk)
            have hpv : (strsV P)[k]? = some (.string (str p)) := by simp [strsV, hpk]
            have hc1 := row_cell (hp.row (i := 0) rfl)
            have hc2 := row_cell (hp.row (i := 1) rfl)
            have g1 := hc1 k _ hpv
            have g2 := hc2 k _ hpv
            have k0 : (0 : Int) ≤ (k : Int) := by omega
            have k1 : (k : Int) < (n : Int) := by omega
            have k3 : IntKind.i64.wrap ((k : Int) + 1) = (k : Int) + 1 := by have := hn36.out; rw [IntKind.wrap_i64]; omega
            have t1 : ((str p).toList == (str p).toList) = true := by simp
            have t2 : (p == p) = true := by simp
            have q3 : ¬ (462 : Int) < (p.length : Int) := by omega
            replace hp := Lib.hid hp; replace hkn := Lib.hid hkn
            clear hc1 hc2 hpv hpk hpl hk
            go_wp2
            go_quiet (fail)
            go_wp2
            have hp3 := hp.out.below (belowDrewN (Below.refl wr.heap.size wr) nq)
            replace hp3 := Lib.hid hp3
            go_roundg K2
            case measure => have := hkn.out; omega
            case rel => exact ⟨k + 1, by go_num, by have := hkn.out; omega, hp3.out⟩
          · have hk0 : gk = 0 := by omega
            subst hk0
            obtain rfl : k = n := by omega
            have k1 : ¬ (k : Int) < (k : Int) := by omega
            have hB0 : B.length + k ≤ 100000000 := by have := hBl.out; have := hi2; have := hn36.out; omega
            have hR0 : recs.length < 100000000 := by have := hrl.out; have := hi2; omega
            have hi3 : IntKind.i64.wrap ((i : Int) + 1) = (i : Int) + 1 := by rw [IntKind.wrap_i64]; omega
            have hP3 := strsV_len P
            have hP4 := strsV_one' P
            have hcap0 : k ≤ 100000000 := by have := hn36.out; omega
            replace hp := Lib.hid hp; replace hB0 := Lib.hid hB0; replace hR0 := Lib.hid hR0; replace hP3 := Lib.hid hP3; replace hP4 := Lib.hid hP4; replace hcap0 := Lib.hid hcap0
            clear hkn hk
            rcases hyes.out with rfl | ⟨h0, h1, h2, h3⟩
            · clear hrs hput hsplit hrsplit hblk hyes
              go_wp2
              have hp4 := Lib.hid (((hp.out.drop 0).drop 0).drop 0)
              go_roundg Ko
              case measure => have := hik.out; omega
              case rel => exact ⟨i + 1, B, recs, vals, ad5, ad6, cp5, cp6, by go_num, by have := hik.out; omega, rfl, rfl, ⟨hrest.out, hvl.out, hp4.out⟩, by have := hrl.out; omega, by have := hBl.out; omega⟩
            · have hrs2 := Lib.hid (rest_append hrest.out (hrs.out h0 h1 h2 h3))
              have n5 : (M != []) = true := by simpa using h0
              have n6 : M.isEmpty = false := by cases M <;> simp at h0 ⊢
              clear hrs hput hsplit hrsplit hblk hyes h1 h2 h3
              go_wp2_with (first
                | (at_builtin; go_loud (refine wpList_append_sl_hp rfl _ _ rfl Try.underlying24 strInfo' rfl (by decide) (by decide) hp.out 3 rfl rfl rfl (hp.out.sl (i := 1) rfl (by have := hcap0.out; omega)) (by rw [hP3.out, ← hn.out, Nat.mul_one]) hP4.out hB0.out ?_; intro v2 w2 hp2 hv2; have hq := Lib.hid hp2; clear hp2; obtain ⟨ad2, cp2, rfl⟩ := hv2))
                | (at_builtin; go_loud (refine wpList_append_hp rfl _ _ rfl Try.underlying22 changesInfo rfl (by decide) (by decide) (hq.out.alloc_ (.cells #[.slice ad8 x.length cp8] 25)) 4 rfl rfl _ _ [.slice ad8 x.length cp8] rfl rfl (block_cells (heap_alloc_new _ _)) (by intro u hu; simp at hu; subst hu; rfl) hR0.out ?_; intro v5 w5 hp5 hv5; have hq5 := Lib.hid hp5; clear hp5; obtain ⟨b5, cp5', rfl⟩ := hv5)))
              have hp6 := ((hq5.out.drop 0).drop 0).perm (List.perm_append_singleton _ _).symm
              have hsn := rowsOf_snoc vals recs (.slice ad8 x.length cp8) x hvl.out
              replace hp6 := Lib.hid hp6; replace hsn := Lib.hid hsn
              go_roundg Ko
              case measure => have := hik.out; omega
              case rel =>
                have q1 : (B ++ P).length = B.length + k := by rw [List.length_append, ← hn.out]
                have q2 : (recs ++ [x]).length = recs.length + 1 := by simp
                have q3 : strsV (B ++ P) = strsV B ++ strsV P := by simp [strsV]
                refine ⟨i + 1, B ++ P, recs ++ [x], vals ++ [.slice ad8 x.length cp8], ad2, some ⟨b5, 0, none⟩, cp2, cp5', by go_num, by have := hik.out; omega, by rw [q1], by rw [q2], ⟨by simpa using hrs2.out, by simp [hvl.out], ?_⟩, by have := hrl.out; rw [q2]; omega, by have := hBl.out; have := hn36.out; rw [q1]; omega⟩
                rw [hsn.out, q1, q2, q3]; exact hp6.out
    · have hk0 : gk = 0 := by omega
      subst hk0
      have hB0 : B.length ≤ 1000000 := by omega
      have hR0 : recs.length ≤ 1000000 := by omega
      have hjoin := fun W h => join_any B recs hrest hB0 (.slice ad5 B.length cp5) W h
      obtain ⟨m, hm⟩ : ∃ m, m = recs.length := ⟨_, rfl⟩
      have q1 : (m != m) = false := by simp
      have q2 : ((m : Int) != (m : Int)) = false := by simp
      simp only [← hm] at hp hR0
      unfold JoinRet at hjoin
      simp only [← hm] at hjoin
      rw [← hm]
      have hrle := rest_le hrest
      replace hrle := Lib.hid hrle
      clear hrest hrl
      have hB1 : B.length ≤ 100000000 := by omega
      have hc : (¬ (i : Int) < (len0 : Int)) ∨ ((i : Int) < (len0 : Int) ∧ ¬ (i : Int) < (len1 : Int)) ∨ ((i : Int) < (len0 : Int) ∧ (i : Int) < (len1 : Int) ∧ ¬ (i : Int) < 5) := by omega
      replace hp := Lib.hid hp; replace hvl := Lib.hid hvl; replace hjoin := Lib.hid hjoin; replace hm := Lib.hid hm; replace hB1 := Lib.hid hB1; replace hR0 := Lib.hid hR0
      clear hBl hik hi hB0
      have hout : Hp w [] (.row 9 1 (.slice ad5 B.length cp5) B.length (strsV B) :: .row 25 1 (.slice ad6 m cp6) m vals :: rowsOf vals recs) wr := hp.out
      clear hout
      rcases hc with c0 | ⟨c0, c1⟩ | ⟨c0, c1, c2⟩
      all_goals
        go_wp2_with (first
          | (go_at_call 15; go_loud ((with_reducible refine (hjoin.out _ (hp.out.sl (i := 0) rfl (by have := hB1.out; omega))).mono ?_); rintro e w4 ⟨v4, val4, rfl, hv4, h4⟩; obtain ⟨ad4, cp4, rfl⟩ := rowShape (h4.row (i := 0) rfl); replace hp := Lib.hid (hp.out.below h4.bel); replace h4 := Lib.hid h4; replace hv4 := Lib.hid hv4))
          | (go_at_call 16; (with_reducible refine (awake_any _).mono ?_); rintro e w13 ⟨rfl, b13⟩; replace hp := Lib.hid (hp.out.below b13); replace h4 := Lib.hid (h4.out.below b13); clear b13))
        have h4' : ∃ WJ, Hp WJ [] (.row 25 1 (.slice ad4 m cp4) m val4 :: rowsOf val4 recs) w13 := ⟨_, h4.out⟩
        obtain ⟨WJ, h5⟩ := h4'
        clear h4
        go_loopg [15] m (fun gn s15 wx => ∃ k : Nat, s15 = .int .i64 (k : Int) ∧ k + gn = m ∧ Hp WJ [] (.row 25 1 (.slice ad4 m cp4) m val4 :: rowsOf val4 recs) wx ∧ Hp w [] (.row 9 1 (.slice ad5 B.length cp5) B.length (strsV B) :: .row 25 1 (.slice ad6 m cp6) m vals :: rowsOf vals recs) wx)
        case atStart => exact ⟨0, rfl, by omega, h5, hp.out⟩
        case round =>
          clear hp h5
          obtain ⟨k, rfl, hkm, h5, hp⟩ := hrel
          by_cases hk : k < m
          · obtain ⟨Ki, rfl⟩ : ∃ K : Nat, gk = K + 1 := ⟨gk - 1, by omega⟩
            obtain ⟨b4, cq4, e4, hc4⟩ := rowCells (h5.row (i := 0) rfl) (by omega)
            obtain ⟨b6, cq6, e6, hc6⟩ := rowCells (hp.row (i := 1) rfl) (by omega)
            simp only [Value.slice.injEq, true_and] at e4 e6
            obtain ⟨rfl, rfl⟩ := e4
            obtain ⟨rfl, rfl⟩ := e6
            obtain ⟨x, hx⟩ : ∃ x, recs[k]? = some x := ⟨_, List.getElem?_eq_getElem (by have := hm.out; omega)⟩
            obtain ⟨u4, hu4⟩ : ∃ u, val4[k]? = some u := ⟨_, List.getElem?_eq_getElem (by have := hv4.out; omega)⟩
            obtain ⟨u6, hu6⟩ : ∃ u, vals[k]? = some u := ⟨_, List.getElem?_eq_getElem (by have := hvl.out; have := hm.out; omega)⟩
            have d4 := hc4 k _ hu4
            have d6 := hc6 k _ hu6
            have hxl := hrle.out x (List.mem_of_getElem? hx)
            have i4 : (.row 25 1 (.slice (some ⟨b4, 0, none⟩) m cp4) m val4 :: rowsOf val4 recs)[k + 1]? = some (.row 100 3 u4 x.length (chCells x)) := by simpa using rowsOf_get val4 recs k u4 x hu4 hx
            have i6 : (.row 9 1 (.slice ad5 B.length cp5) B.length (strsV B) :: .row 25 1 (.slice (some ⟨b6, 0, none⟩) m cp6) m vals :: rowsOf vals recs)[k + 2]? = some (.row 100 3 u6 x.length (chCells x)) := by simpa using rowsOf_get vals recs k u6 x hu6 hx
            have hsame := same_yes x u4 u6 wr.drew (h5.drew.sl i4 (by omega)) (hp.drew.sl i6 (by omega))
            have k0 : (0 : Int) ≤ (k : Int) := by omega
            have k1 : (k : Int) < (m : Int) := by omega
            have k3 : IntKind.i64.wrap ((k : Int) + 1) = (k : Int) + 1 := by have := hR0.out; rw [IntKind.wrap_i64]; omega
            replace h5 := Lib.hid h5; replace hp := Lib.hid hp; replace hsame := Lib.hid hsame; replace hkm := Lib.hid hkm
            clear hc4 hc6 hu4 hu6 hx hxl i4 i6 hk
            go_wp2
            go_region_with (go_at_call 17; (with_reducible refine hsame.out.mono ?_); rintro e w7 ⟨rfl, b7⟩; replace h5 := Lib.hid (h5.out.drew.below b7); replace hp := Lib.hid (hp.out.drew.below b7); clear b7)
            all_goals
              go_wp2
              go_roundg Ki
              case measure => have := hkm.out; omega
              case rel => exact ⟨k + 1, by go_num, by have := hkm.out; omega, h5.out, hp.out⟩
          · have hk0 : gk = 0 := by omega
            subst hk0
            obtain rfl : k = m := by omega
            have k1 : ¬ (k : Int) < (k : Int) := by omega
            replace hp := Lib.hid hp
            clear h5 hkm hk
            go_wp2
            go_ret
            exact ⟨rfl, hp.out.bel⟩
end Go.Proofs.Ytplfbpihhcnnmaa.wal
