/- Two texts are twins just if they are unlike, and of one sum: the law. The table of salts is a premise. No other condition. -/
import Derived.Test.YtaldakkbfbpnkaaDoorBook
namespace Go.Proofs.YtaldakkbfbpnkaaDoor.sha
open Go.RowKit
attribute [local go_sem ↓] Go.wp_at_zero Go.wp_at_succ
attribute [local go_sem] str_size str_append
set_option linter.unusedVariables false
set_option maxRecDepth 100000

set_option maxRecDepth 100000 in
theorem bawake_any (w : World) (hT : SaltAt w salts) : Calls Tryd.prog 32 #[] w fun e w' => e = .returned (.bool true) ∧ Below w.heap.size w w' := by
  have c1 : ∀ w' g m st, BookAt w' g m st → st.c ≤ 8192 → SaltAt w' salts → Calls Tryd.prog 34 #[.pointer (some ⟨g, 0, none⟩), .string ⟨#[97]⟩] w' fun e w2 => e = .returned (.string (str (shaB salts [97]))) ∧ BookAt w2 g m (noteS st (shaB salts [97]) [97]) ∧ Keeps [g, m] w' w2 := fun w' g m st h hc hs => bsum_any [97] (by decide) w' h hc hs
  have e1 : noteS .none (shaB salts [97]) [97] = BSt.none.more (shaB salts [97]) [97] := by simp [noteS, BSt.none]
  have e2 : noteS (BSt.none.more (shaB salts [97]) [97]) (shaB salts [97]) [97] = BSt.none.more (shaB salts [97]) [97] := by simp [noteS, BSt.none, BSt.more]
  have e3 : (BSt.none.more (shaB salts [97]) [97]).c = 1 := rfl
  have e4 : BSt.none.c = 0 := rfl
  have c2 := fun w' g m (h : BookAt w' g m .none) hs => c1 w' g m .none h (by rw [e4]; decide) hs
  have c3 := fun w' g m (h : BookAt w' g m (BSt.none.more (shaB salts [97]) [97])) hs => c1 w' g m _ h (by rw [e3]; decide) hs
  have c4 : ∀ w' g m, BookAt w' g m (BSt.none.more (shaB salts [97]) [97]) → Calls Tryd.prog 35 #[.pointer (some ⟨g, 0, none⟩)] w' fun e w2 => e = .returned (.int .i64 1) ∧ Below w'.heap.size w' w2 := fun w' g m h => blen_any w' h
  rw [e1] at c2
  rw [e2] at c3
  obtain ⟨st1, hst1⟩ : ∃ s, s = BSt.none.more (shaB salts [97]) [97] := ⟨_, rfl⟩
  obtain ⟨S, hS⟩ : ∃ s, s = shaB salts [97] := ⟨_, rfl⟩
  rw [← hst1] at c2 c3 c4
  rw [← hS] at c2 c3
  clear c1 e1 e2 e3 e4 hst1 hS
  replace c2 := Lib.hid c2; replace c3 := Lib.hid c3; replace c4 := Lib.hid c4; replace hT := Lib.hid hT
  go_enter Tryd.func32, Tryd.ntmps32
  go_wp2_with (first
    | (go_at_call 37; (with_reducible refine (bnew_any _).mono ?_); rintro e w1 ⟨rfl, h1, b1⟩; replace h1 := Lib.hid h1; replace b1 := Lib.hid b1)
    | (go_at_call 34; (with_reducible refine (c2.out _ _ _ h1.out (hT.out.keep b1.out)).mono ?_); rintro e w2 ⟨rfl, h2, k2⟩; have b2 := belowKeeps b1.out k2 (by simp); replace h2 := Lib.hid h2; replace b2 := Lib.hid b2; clear k2 h1)
    | (go_at_call 34; (with_reducible refine (c3.out _ _ _ h2.out (hT.out.keep b2.out)).mono ?_); rintro e w3 ⟨rfl, h3, k3⟩; have b3 := belowKeeps b2.out k3 (by simp); replace h3 := Lib.hid h3; replace b3 := Lib.hid b3; clear k3 h2)
    | (go_at_call 35; (with_reducible refine (c4.out _ _ _ h3.out).mono ?_); rintro e w4 ⟨rfl, b4⟩; replace b4 := Lib.hid (belowCont b3.out b4)))
  all_goals go_ret
  all_goals exact ⟨by first | rfl | simp, b4.out⟩
set_option maxRecDepth 100000 in
set_option maxHeartbeats 1000000 in
theorem bookReal_walk (a0 a1 : ByteArray) (w : World) (w0 : a0.size ≤ reachBytes) (w1 : a1.size ≤ reachBytes) (hT : SaltAt w salts) :
    Calls Tryd.prog 10 #[.string a0, .string a1] w fun e w' => e = .returned (.bool true) ∧ Below w.heap.size w w' := by
  clear w0 w1
  have hk : a0.extract 0 (min (a0.size : Int) 200).toNat = str (a0.data.toList.take 200) := cut_min a0 200
  have ht : a1.extract 0 (min (a1.size : Int) 200).toNat = str (a1.data.toList.take 200) := cut_min a1 200
  obtain ⟨k, hk0⟩ : ∃ k, k = a0.data.toList.take 200 := ⟨_, rfl⟩
  obtain ⟨t, ht0⟩ : ∃ k, k = a1.data.toList.take 200 := ⟨_, rfl⟩
  have hkl : k.length ≤ 200 := by rw [hk0, List.length_take]; omega
  have htl : t.length ≤ 200 := by rw [ht0, List.length_take]; omega
  rw [← hk0] at hk
  rw [← ht0] at ht
  have c1 := fun w' h => real_any k t (by omega) (by omega) w' h
  have c2 : ∀ w', SaltAt w' salts → Calls Tryd.prog 33 #[.string (str k), .string (str k)] w' fun e w2 => e = .returned (.bool false) ∧ Below w'.heap.size w' w2 := fun w' h => by
    have := real_any k k (by omega) (by omega) w' h
    have e : (!(k == k) && shaB salts k == shaB salts k) = false := by simp
    rw [e] at this; exact this
  have c3 := fun w' => rsum_any k (by omega) w'
  have c4 := fun w' => rsum_any t (by omega) w'
  have c5 := fun w' h => bsum_nil k (by omega) w' h
  obtain ⟨S, hS⟩ : ∃ X, X = shaB salts k := ⟨_, rfl⟩
  obtain ⟨U, hU⟩ : ∃ X, X = shaB salts t := ⟨_, rfl⟩
  rw [← hS, ← hU] at c1
  rw [← hS] at c3 c5
  rw [← hU] at c4
  have f1 : ((str k).toList == (str t).toList) = (k == t) := by rw [str_bl, str_bl]
  have f2 : ((str S).toList == (str U).toList) = (S == U) := by rw [str_bl, str_bl]
  have f3 : ((str S).toList == (str S).toList) = true := by simp
  obtain ⟨q, hq⟩ : ∃ b, (k == t) = b := ⟨_, rfl⟩
  obtain ⟨p, hp⟩ : ∃ b, (S == U) = b := ⟨_, rfl⟩
  rw [hq, hp] at c1
  rw [hq] at f1
  rw [hp] at f2
  have b1 : (0 : Int) ≤ min (a0.size : Int) 200 := by omega
  have b2 : min (a0.size : Int) 200 ≤ (a0.size : Int) := by omega
  have b3 : (0 : Int) ≤ min (a1.size : Int) 200 := by omega
  have b4 : min (a1.size : Int) 200 ≤ (a1.size : Int) := by omega
  obtain ⟨K0, hK0⟩ : ∃ X, X = str k := ⟨_, rfl⟩
  obtain ⟨T0, hT0⟩ : ∃ X, X = str t := ⟨_, rfl⟩
  obtain ⟨S0, hS0⟩ : ∃ X, X = str S := ⟨_, rfl⟩
  obtain ⟨U0, hU0⟩ : ∃ X, X = str U := ⟨_, rfl⟩
  rw [← hK0] at c1 c2 c3 c5 f1 hk
  rw [← hT0] at c1 c4 f1 ht
  rw [← hS0] at c3 c5 f2 f3
  rw [← hU0] at c4 f2
  have hbb : Below w.heap.size w w := Below.refl _ _
  replace hbb := Lib.hid hbb
  clear hk0 ht0 hkl htl hS hU hq hp hK0 hT0 hS0 hU0
  replace c1 := Lib.hid c1; replace c2 := Lib.hid c2; replace c3 := Lib.hid c3; replace c4 := Lib.hid c4; replace c5 := Lib.hid c5; replace hT := Lib.hid hT
  go_enter Tryd.func10, Tryd.ntmps10
  go_upto_region 1 with fail
  go_cut [5, 6] from 7 (fun p q wx => p = .string K0 ∧ q = .string T0 ∧ wx = w.drew)
  case first =>
    refine wp_region_still_lit (by kernel_rfl) (by kernel_rfl) ?_
    change wpStill _ _ w.drew _ _ _
    repeat still_step
    refine wpStill_nil ?_
    go_wp2_with fail
    go_meet
    exact ⟨by first | rfl | rw [hk], by first | rfl | rw [ht], rfl⟩
  case rest =>
  obtain ⟨rfl, rfl, rfl⟩ := hcut
  replace hbb := Lib.hid hbb.out.drew
  clear hk ht b1 b2 b3 b4
  cases q <;> cases p
  all_goals go_wp2_with (first
    | (go_at_call 31; (with_reducible refine (btwins_nil _).mono ?_); rintro e w1 ⟨rfl, b1⟩; replace hbb := Lib.hid (belowCont hbb.out b1))
    | (go_at_call 32; (with_reducible refine (bawake_any _ (hT.out.keep hbb.out)).mono ?_); rintro e w1 ⟨rfl, b1⟩; replace hbb := Lib.hid (belowCont hbb.out b1))
    | (go_at_call 33; (with_reducible refine (c1.out _ (hT.out.keep hbb.out)).mono ?_); rintro e w1 ⟨rfl, b1⟩; replace hbb := Lib.hid (belowCont hbb.out b1))
    | (go_at_call 33; (with_reducible refine (c2.out _ (hT.out.keep hbb.out)).mono ?_); rintro e w1 ⟨rfl, b1⟩; replace hbb := Lib.hid (belowCont hbb.out b1))
    | (go_at_call 20; (with_reducible refine (c3.out _).mono ?_); rintro e w1 ⟨rfl, b1⟩; replace hbb := Lib.hid (belowCont hbb.out b1))
    | (go_at_call 20; (with_reducible refine (c4.out _).mono ?_); rintro e w1 ⟨rfl, b1⟩; replace hbb := Lib.hid (belowCont hbb.out b1))
    | (go_at_call 34; (with_reducible refine (c5.out _ (hT.out.keep hbb.out)).mono ?_); rintro e w1 ⟨rfl, b1⟩; replace hbb := Lib.hid (belowCont hbb.out b1))
    | (go_at_call 35; (with_reducible refine (blen_nil _).mono ?_); rintro e w1 ⟨rfl, b1⟩; replace hbb := Lib.hid (belowCont hbb.out b1))
    | (go_at_call 36; (with_reducible refine (bfull_nil _).mono ?_); rintro e w1 ⟨rfl, b1⟩; replace hbb := Lib.hid (belowCont hbb.out b1)))
  all_goals go_ret
  all_goals exact ⟨by first | rfl | simp, hbb.out⟩
end Go.Proofs.YtaldakkbfbpnkaaDoor.sha
