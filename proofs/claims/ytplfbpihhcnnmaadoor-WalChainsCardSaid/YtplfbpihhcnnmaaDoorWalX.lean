/- A chain's sum is that of the chain ahead, and the block; both are noted: the law WalChains. The table of salts is a premise. No other condition. -/
import Derived.Test.YtplfbpihhcnnmaaDoorBook
import Derived.Test.YtplfbpihhcnnmaaDoorWal8
import Derived.Test.YtplfbpihhcnnmaaDoorBox
import Derived.StillTailTactics
import Derived.Deep.DeepCutAuto
namespace Go.Proofs.YtplfbpihhcnnmaaDoor.sha
open Go.RowKit
attribute [local go_sem ↓] Go.wp_at_zero Go.wp_at_succ
attribute [local go_sem] str_size str_append
set_option linter.unusedVariables false
set_option maxRecDepth 100000

theorem note_le (st : BSt) (k s : List UInt8) : st.c ≤ (noteS st k s).c ∧ (noteS st k s).c ≤ st.c + 1 := by
  unfold noteS
  split
  · omega
  · split
    · split <;> simp [BSt.twin]
    · split <;> simp [BSt.brim, BSt.more]
theorem note_first (k s : List UInt8) : (noteS .none k s).c = 1 := by
  unfold noteS; simp [BSt.none, BSt.more]
theorem cut_min40 (s : ByteArray) (k : Nat) : s.extract 0 (min (s.size : Int) k).toNat = str (s.data.toList.take k) := by
  have hl : s.data.toList.length = s.size := by rw [Array.length_toList]; rfl
  rw [cut_text]
  congr 1
  rw [List.take_eq_take_iff]; omega
theorem chain_any (c x : List UInt8) (hc : c.length ≤ 1000) (hx : x.length ≤ 1000) (w : World) {g m : Nat} {st : BSt} (h : BookAt w g m st) (hn : st.c ≤ 8192) (hT : SaltAt w salts) :
    Calls Tryd.prog 29 #[.pointer (some ⟨g, 0, none⟩), .string (str c), .string (str x)] w fun e w' => e = .returned (.string (str (shaB salts (c ++ x)))) ∧ BookAt w' g m (noteS st (shaB salts (c ++ x)) (c ++ x)) ∧ Keeps [g, m] w w' := by
  have hs := bsum_any (c ++ x) (by rw [List.length_append]; omega) w h hn hT
  have hroom : ¬ 9223372036854775807 < c.length + x.length := by omega
  replace hs := Lib.hid hs
  clear h hn hT hc hx
  go_enter Tryd.func29, Tryd.ntmps29
  go_wp2_with (go_at_call 77; (with_reducible refine hs.out.mono ?_); rintro e w1 ⟨rfl, h1, k1⟩)
  go_ret
  exact ⟨rfl, h1, k1⟩
set_option maxHeartbeats 4000000 in
theorem walChains_walk (a0 : ByteArray) (a1 : Option Addr) (len1 cap1 : Nat) (w : World) (w0 : a0.size ≤ reachBytes) (w1 : SliceArg w a1 len1 1 (fun _ v => ∃ x, v = .string x ∧ x.size ≤ maxLen)) (hT : SaltAt w salts) :
    Calls Tryd.prog 6 #[.string a0, .slice a1 len1 cap1] w fun e w' => e = .returned (.bool true) ∧ Below w.heap.size w w' := by
  obtain ⟨C, hCC⟩ : ∃ C, C = a0.data.toList.take 40 := ⟨_, rfl⟩
  have hCl : C.length ≤ 40 := by rw [hCC, List.length_take]; omega
  have hx0 : a0.extract 0 (min (a0.size : Int) 40).toNat = str C := by rw [hCC]; exact cut_min40 a0 40
  have m1 : (0 : Int) ≤ min (a0.size : Int) 40 := by omega
  have m2 : min (a0.size : Int) 40 ≤ (a0.size : Int) := by omega
  have hN : ∀ W, Calls Tryd.prog 28 #[] W fun e w' => ∃ g m, e = .returned (.pointer (some ⟨g, 0, none⟩)) ∧ BookAt w' g m .none ∧ Below W.heap.size W w' ∧ W.heap.size ≤ g ∧ W.heap.size ≤ m := fun W => (bnew_any W).mono fun e w' ⟨h1, h2, h3⟩ => ⟨_, _, h1, h2, h3, by omega, by omega⟩
  replace hN := Lib.hid hN; replace hT := Lib.hid hT; replace w1 := Lib.hid w1; replace hCl := Lib.hid hCl
  clear w0 hCC
  go_enter Tryd.func6, Tryd.ntmps6
  go_upto_region 1 with fail
  go_cut [5, 6] (fun s5 s6 wx => ∃ g m, s5 = .pointer (some ⟨g, 0, none⟩) ∧ s6 = .string (str C) ∧ BookAt wx g m .none ∧ Below w.heap.size w wx ∧ w.heap.size ≤ g ∧ w.heap.size ≤ m)
  case first =>
    go_region_with (go_at_call 28; (with_reducible refine (hN.out _).mono ?_); rintro e w2 ⟨g, m, rfl, h1, b1, g1, g2⟩; replace h1 := Lib.hid h1; replace b1 := Lib.hid b1)
    all_goals (go_wp2_with fail; go_meet; exact ⟨g, m, rfl, rfl, h1.out, undrew b1.out, g1, g2⟩)
  case rest =>
    obtain ⟨g, m, rfl, rfl, hB, hb, hg, hm⟩ := hcut
    clear hx0 m1 m2
    go_wp2
    go_loopg [6, 7] (min len1 10) (fun gn s6 s7 wr => ∃ (i : Nat) (c : List UInt8) (st : BSt), s6 = .string (str c) ∧ c.length ≤ 40 ∧ s7 = .int .i64 (i : Int) ∧ i + gn = min len1 10 ∧ BookAt wr g m st ∧ Below w.heap.size w wr ∧ st.c ≤ i ∧ (0 < i → 0 < st.c) ∧ (i = 0 → st = .none))
    case atStart => exact ⟨0, C, .none, rfl, hCl.out, rfl, by omega, hB, hb, Nat.le_refl _, fun h => absurd h (by omega), fun _ => rfl⟩
    case round =>
      clear hB hb
      obtain ⟨i, c, st, rfl, hcl, rfl, hik, hB, hb, hsc, hs0, hsn⟩ := hrel
      by_cases hi : i < len1 ∧ i < 10
      · obtain ⟨hi1, hi2⟩ := hi
        obtain ⟨Ko, rfl⟩ : ∃ K : Nat, gk = K + 1 := ⟨gk - 1, by omega⟩
        obtain ⟨hw1, hw2⟩ := w1.out
        obtain ⟨b, off, rfl, hlt, hcells⟩ := hw2.resolve_left (by omega)
        obtain ⟨v0, hv0, x0, rfl, hx0⟩ := hcells i hi1 0 (by omega)
        have d0 : wr.cell? ⟨b, off + i, none⟩ = some (.string x0) := by
          have := (hb.cell (p := ⟨b, off + i * 1 + 0, none⟩) hlt).trans hv0
          simpa using this
        have e1 : (0 : Int) ≤ (i : Int) := by omega
        have e2 : (i : Int) < (len1 : Int) := by omega
        have e3 : (i : Int) < 10 := by omega
        obtain ⟨X, hXX⟩ : ∃ X, X = x0.data.toList.take 200 := ⟨_, rfl⟩
        have hXl : X.length ≤ 200 := by rw [hXX, List.length_take]; omega
        have hx : x0.extract 0 (min (x0.size : Int) 200).toNat = str X := by rw [hXX]; exact cut_min40 x0 200
        have q1 : (0 : Int) ≤ min (x0.size : Int) 200 := by omega
        have q2 : min (x0.size : Int) 200 ≤ (x0.size : Int) := by omega
        clear hXX hx0 hcells hw1 hw2 hv0
        have hch : ∀ W, BookAt W g m st → SaltAt W salts → Calls Tryd.prog 29 #[.pointer (some ⟨g, 0, none⟩), .string (str c), .string (str X)] W fun e w' => e = .returned (.string (str (shaB salts (c ++ X)))) ∧ BookAt w' g m (noteS st (shaB salts (c ++ X)) (c ++ X)) ∧ Keeps [g, m] W w' := fun W h h2 => chain_any c X (by omega) (by omega) W h (by omega) h2
        have hrs := fun W => rsum_any (c ++ X) (by rw [List.length_append]; omega) W
        have hn1 := note_le st (shaB salts (c ++ X)) (c ++ X)
        have hn2 : st = .none → (noteS st (shaB salts (c ++ X)) (c ++ X)).c = 1 := fun h => by rw [h]; exact note_first _ _
        have hSl : (shaB salts (c ++ X)).length = 32 := shaB_len _ _
        have hroom : ¬ 9223372036854775807 < c.length + X.length := by omega
        obtain ⟨st2, hst2⟩ : ∃ s, s = noteS st (shaB salts (c ++ X)) (c ++ X) := ⟨_, rfl⟩
        rw [← hst2] at hch hn1 hn2
        clear hst2
        generalize shaB salts (c ++ X) = S at *
        have t1 : ((str S).toList == (str S).toList) = true := by simp
        replace hch := Lib.hid hch; replace hrs := Lib.hid hrs; replace hn1 := Lib.hid hn1; replace hn2 := Lib.hid hn2; replace hSl := Lib.hid hSl; replace hB := Lib.hid hB; replace hb := Lib.hid hb; replace hsc := Lib.hid hsc; replace hs0 := Lib.hid hs0; replace hsn := Lib.hid hsn
        clear hXl hcl
        go_upto_region 5 with fail
        refine wp_region_still_lit (by kernel_rfl) (by kernel_rfl) ?_
        change wpStill _ _ wr.drew _ _ _
        repeat still_step
        refine wpStill_nil ?_
        change Exit.then _ _ _ _ wr.drew
        replace hB := Lib.hid (hB.out.below ((Below.refl wr.heap.size wr).drew)); replace hb := Lib.hid hb.out.drew
        go_wp2_with (first
          | (go_at_call 29; (with_reducible refine (hch.out _ hB.out (hT.out.keep hb.out)).mono ?_); rintro e w3 ⟨rfl, h3, k3⟩; replace hB := Lib.hid h3; replace hb := Lib.hid (hb.out.trans (k3.below hb.out.size (by intro x hx; simp at hx; rcases hx with rfl | rfl; exact hg; exact hm))); clear h3 k3)
          | (go_at_call 30; (with_reducible refine (hrs.out _).mono ?_); rintro e w4 ⟨rfl, b4⟩; replace hB := Lib.hid (hB.out.below b4); replace hb := Lib.hid (belowCont hb.out b4); clear b4))
        go_roundg Ko
        case measure => omega
        case rel => exact ⟨i + 1, S, st2, rfl, by rw [hSl.out]; decide, by go_num, by omega, hB.out, hb.out, by have := hn1.out; have := hsc.out; omega, fun _ => by
          rcases Nat.eq_zero_or_pos i with h0 | h0
          · have := hn2.out (hsn.out h0); omega
          · have := hs0.out h0; have := hn1.out; omega, fun h => by omega⟩
      · have hk0 : gk = 0 := by omega
        subst hk0
        have hcase : ((i : Int) < (len1 : Int) ∧ ¬ (i : Int) < 10) ∨ ¬ (i : Int) < (len1 : Int) := by omega
        obtain ⟨z, hz1, hz2⟩ : ∃ z : Bool, ((len1 : Int) == 0) = z ∧ ((st.c : Int) == 0) = z := by
          rcases Nat.eq_zero_or_pos i with h0 | h0
          · have hl : len1 = 0 := by omega
            have hc0 := hsn h0
            exact ⟨true, by rw [hl]; rfl, by rw [hc0]; rfl⟩
          · have hl : len1 ≠ 0 := by omega
            have hc0 := hs0 h0
            exact ⟨false, by simp; omega, by simp; omega⟩
        have hzz : (z == z) = true := by simp
        have hln := fun W h => blen_any (g := g) (m := m) (st := st) W h
        replace hln := Lib.hid hln; replace hB := Lib.hid hB; replace hb := Lib.hid hb
        clear hs0 hsn hsc hik hi
        rcases hcase with ⟨g1, g2⟩ | g1
        all_goals (
          go_wp2_with (first
            | (go_at_call 31; (with_reducible refine (wal.awake_any _).mono ?_); rintro e w5 ⟨rfl, b5⟩; replace hB := Lib.hid (hB.out.below b5); replace hb := Lib.hid (belowCont hb.out b5); clear b5)
            | (go_at_call 32; (with_reducible refine (hln.out _ hB.out).mono ?_); rintro e w6 ⟨rfl, b6⟩; replace hb := Lib.hid (belowCont hb.out b6); clear b6))
          go_ret
          exact ⟨rfl, hb.out⟩)
end Go.Proofs.YtplfbpihhcnnmaaDoor.sha
