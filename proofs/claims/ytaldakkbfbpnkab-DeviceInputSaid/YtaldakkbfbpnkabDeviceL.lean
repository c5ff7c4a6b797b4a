/- Keys and registers of other lengths are refused; no device is nothing: the law. No condition. -/
import Derived.Test.YtaldakkbfbpnkabDevice2
namespace Go.Proofs.Ytaldakkbfbpnkab.disk
open Go.RowKit
attribute [local go_sem ↓] Go.wp_at_zero Go.wp_at_succ
attribute [local go_sem] str_size
set_option linter.unusedVariables false
set_option maxRecDepth 100000

set_option maxHeartbeats 2000000 in
theorem deviceInput_walk (a0 a1 : ByteArray) (w : World) (w0 : a0.size ≤ maxLen) (w1 : a1.size ≤ maxLen) :
    Calls Try.prog 6 #[.string a0, .string a1] w fun e w' => e = .returned (.bool true) ∧ Below w.heap.size w w' := by
  clear w0 w1
  have c1 : ∀ w', Calls Try.prog 22 #[.int .i64 2, .slice none 0 0] w' fun e w2 => e = .returned (.tuple #[.pointer (some ⟨w'.heap.size + 1 + 1 + 1, 0, none⟩), .int .i64 0]) ∧ Below w'.heap.size w' w2 := fun w' => (new_ok 2 (by decide) (by decide) w').mono (fun e w2 h => ⟨h.1, h.2.2⟩)
  have c2 : ∀ w', Calls Try.prog 24 #[.int .u8 97] w' fun e w2 => e = .returned (.string (str (wordL 97))) ∧ Below w'.heap.size w' w2 := fun w' => word_any 97 w'
  have c3 : ∀ w', Calls Try.prog 24 #[.int .u8 107] w' fun e w2 => e = .returned (.string (str (wordL 107))) ∧ Below w'.heap.size w' w2 := fun w' => word_any 107 w'
  have hz : (str (wordL 107)).size = 33 := by rw [str_size, wordL_len]
  have c4 : ∀ w' s, Calls Try.prog 23 #[.string s, .pointer none] w' fun e w2 => e = .returned (.tuple #[.pointer none, .int .i64 1]) ∧ Below w'.heap.size w' w2 := fun w' s => dnew_bad s none (Or.inr rfl) w'
  obtain ⟨W7, hW7⟩ : ∃ x, x = str (wordL 107) := ⟨_, rfl⟩
  obtain ⟨W9, hW9⟩ : ∃ x, x = str (wordL 97) := ⟨_, rfl⟩
  rw [← hW7] at c3 hz
  rw [← hW9] at c2
  clear hW7 hW9
  obtain ⟨p, hp⟩ : ∃ b, decide (a0.size = 32) = b := ⟨_, rfl⟩
  obtain ⟨q, hq⟩ : ∃ b, decide (a1.size = 33) = b := ⟨_, rfl⟩
  have hp1 : (a0.size = 32) = (p = true) := by rw [← hp]; simp
  have hp2 : ((a0.size : Int) = 32) = (p = true) := by rw [← hp1]; apply propext; omega
  have hp3 : ((a0.size : Int) == 32) = p := by rw [Bool.eq_iff_iff, ← hp2]; simp
  have hq1 : (a1.size = 33) = (q = true) := by rw [← hq]; simp
  have hq2 : ((a1.size : Int) = 33) = (q = true) := by rw [← hq1]; apply propext; omega
  have hq3 : ((a1.size : Int) == 33) = q := by rw [Bool.eq_iff_iff, ← hq2]; simp
  have c5 : ∀ w' g, Calls Try.prog 23 #[.string a0, .pointer (some ⟨g, 0, none⟩)] w' fun e w2 => ∃ x, e = .returned (.tuple #[x, .int .i64 (if p then 0 else 1)]) ∧ Below w'.heap.size w' w2 := fun w' g => by
    cases p
    · exact (dnew_bad a0 _ (Or.inl (by rw [hp1]; decide)) w').mono (fun e w2 h => ⟨_, h.1, h.2⟩)
    · exact (dnew_ok a0 g (by rw [hp1]) w').mono (fun e w2 h => by obtain ⟨d, h1, _, _, h4⟩ := h; exact ⟨_, h1, h4⟩)
  have c6 : ∀ w' d g q' m k, DevAt w' d K32 (str Z33) 0 g → DiskAt w' w'.heap.size g q' m k (.slice none 0 0) (blankSt (List.replicate 2 Z512)) → True := fun _ _ _ _ _ _ _ _ => trivial
  clear c6 hp hq
  have c7 : ∀ w' B d g q' m k, DevAt w' d K32 (str Z33) 0 g → DiskAt w' B g q' m k (.slice none 0 0) (blankSt (List.replicate 2 Z512)) → Calls Try.prog 26 #[.pointer (some ⟨d, 0, none⟩), .string a1] w' fun e w2 => e = .returned (.int .i64 (if q then 0 else 1)) ∧ (q = false → DevAt w2 d K32 (str Z33) 0 g) ∧ Keeps [d, g] w' w2 := fun w' B d g q' m k h1 h2 => by
    cases q
    · exact (bump_bad a1 (by rw [hq1]; decide) d w').mono (fun e w2 h => ⟨h.1, fun _ => h1.below h.2, Keeps.ofBelow h.2 _⟩)
    · exact (bump_ok h1 h2 rfl (by decide) (by decide) a1 (by rw [hq1])).mono (fun e w2 h => ⟨h.1, (fun hh => by cases hh), h.2.2.2⟩)
  have c8 : ∀ w' d g, DevAt w' d K32 (str Z33) 0 g → Calls Try.prog 28 #[.pointer (some ⟨d, 0, none⟩)] w' fun e w2 => e = .returned (.int .u64 0) ∧ Below w'.heap.size w' w2 := fun w' d g h => counter_any h
  have hbb := Below.refl w.heap.size w
  replace hbb := Lib.hid hbb
  replace c1 := Lib.hid c1; replace c2 := Lib.hid c2; replace c3 := Lib.hid c3; replace c4 := Lib.hid c4; replace c5 := Lib.hid c5; replace c7 := Lib.hid c7; replace c8 := Lib.hid c8
  cases p <;> cases q
  all_goals (
    go_enter Try.func6, Try.ntmps6
    go_wp2_with (first
      | (go_at_call 22; (with_reducible refine (c1.out _).mono ?_); rintro e w1 ⟨rfl, b1⟩; replace hbb := Lib.hid (belowCont hbb.out b1); clear b1)
      | (go_at_call 23; (with_reducible refine (c4.out _ _).mono ?_); rintro e w1 ⟨rfl, b1⟩; replace hbb := Lib.hid (belowCont hbb.out b1); clear b1)
      | (go_at_call 23; (with_reducible refine (c5.out _ _).mono ?_); rintro e w1 ⟨x, rfl, b1⟩; replace hbb := Lib.hid (belowCont hbb.out b1); clear b1)
      | (go_at_call 25; (with_reducible refine (made_any _).mono ?_); rintro e w1 ⟨d, g, q', m, k, rfl, hv, hD, hdg, hgg, b1⟩; have hwl := hbb.out.size; replace hbb := Lib.hid (belowCont hbb.out b1); replace hdg := Lib.hid (Nat.le_trans hwl hdg); replace hgg := Lib.hid (Nat.le_trans hwl hgg); replace hv := Lib.hid hv; replace hD := Lib.hid hD; clear b1 hwl)
      | (go_at_call 26; (with_reducible refine (c7.out _ _ _ _ _ _ _ hv.out hD.out).mono ?_); rintro e w3 ⟨rfl, hv3, k3⟩; replace hbb := Lib.hid (hbb.out.trans (k3.below hbb.out.size (by intro x hx; simp at hx; rcases hx with rfl | rfl; exact hdg.out; exact hgg.out))); clear hD hv; have hu := Lib.hid hv3; clear hv3 k3)
      | (go_at_call 26; (with_reducible refine (bump_nil _ _).mono ?_); rintro e w1 ⟨rfl, b1⟩; replace hbb := Lib.hid (belowCont hbb.out b1); (try replace hu := Lib.hid (fun h => (hu.out h).below b1)); clear b1)
      | (go_at_call 27; (with_reducible refine (dawake_any _).mono ?_); rintro e w1 ⟨rfl, b1⟩; replace hbb := Lib.hid (belowCont hbb.out b1); (try replace hu := Lib.hid (fun h => (hu.out h).below b1)); clear b1)
      | (go_at_call 28; (with_reducible refine (c8.out _ _ _ (hu.out trivial)).mono ?_); rintro e w1 ⟨rfl, b1⟩; replace hbb := Lib.hid (belowCont hbb.out b1); (try replace hu := Lib.hid (fun h => (hu.out h).below b1)); clear b1)
      | (go_at_call 28; (with_reducible refine (counter_nil _).mono ?_); rintro e w1 ⟨rfl, b1⟩; replace hbb := Lib.hid (belowCont hbb.out b1); (try replace hu := Lib.hid (fun h => (hu.out h).below b1)); clear b1)
      | (go_at_call 29; (with_reducible refine (register_nil _).mono ?_); rintro e w1 ⟨rfl, b1⟩; replace hbb := Lib.hid (belowCont hbb.out b1); clear b1)
      | (go_at_call 30; (with_reducible refine (key_nil _).mono ?_); rintro e w1 ⟨rfl, b1⟩; replace hbb := Lib.hid (belowCont hbb.out b1); clear b1)
      | (go_at_call 24; (with_reducible refine (c2.out _).mono ?_); rintro e w1 ⟨rfl, b1⟩; replace hbb := Lib.hid (belowCont hbb.out b1); (try replace hv := Lib.hid (hv.out.below b1)); (try replace hD := Lib.hid (hD.out.below b1)); clear b1)
      | (go_at_call 24; (with_reducible refine (c3.out _).mono ?_); rintro e w1 ⟨rfl, b1⟩; replace hbb := Lib.hid (belowCont hbb.out b1); (try replace hv := Lib.hid (hv.out.below b1)); (try replace hD := Lib.hid (hD.out.below b1)); clear b1)))
  all_goals go_outline
  all_goals go_ret
  all_goals exact ⟨rfl, hbb.out⟩
end Go.Proofs.Ytaldakkbfbpnkab.disk
