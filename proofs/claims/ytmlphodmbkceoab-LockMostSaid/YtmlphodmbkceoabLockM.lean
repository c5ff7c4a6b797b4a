/- The law LockMost: so many things one holds, and no more; none is nothing. No condition. -/
import Derived.Test.YtmlphodmbkceoabLockA
import Derived.Test.YtmlphodmbkceoabBytes2
import Derived.Deep.DeepCutAuto
namespace Go.Proofs.Ytmlphodmbkceoab.lock
open Go.RowKit
attribute [local go_sem ↓] Go.wp_at_zero Go.wp_at_succ
attribute [local go_sem] str_size
set_option linter.unusedVariables false
set_option maxRecDepth 100000

/-- the name of the i-th thing -/
def keyN (i : Nat) : List UInt8 := [UInt8.ofNat (97 + i % 16), UInt8.ofNat (97 + i / 16 % 16), UInt8.ofNat (97 + i / 256)]
theorem u8_inj {a b : Nat} (ha : a < 256) (hb : b < 256) (h : UInt8.ofNat a = UInt8.ofNat b) : a = b := by
  have := congrArg UInt8.toNat h
  rw [UInt8.toNat_ofNat', UInt8.toNat_ofNat'] at this
  omega
theorem keyN_inj {i j : Nat} (hi : i < 1000) (hj : j < 1000) (h : keyN i = keyN j) : i = j := by
  unfold keyN at h
  simp only [List.cons.injEq, and_true] at h
  obtain ⟨h1, h2, h3⟩ := h
  have e1 := u8_inj (by omega) (by omega) h1
  have e2 := u8_inj (by omega) (by omega) h2
  have e3 := u8_inj (by omega) (by omega) h3
  omega
/-- what is held behind so many Takes -/
def mT (n : Nat) : List UInt8 → Nat → Nat := fun j x => if x = 2 ∧ j ∈ (List.range n).map keyN then 1 else 0
def mH (n : Nat) : Nat → Nat := fun x => if x = 2 then n else 0
theorem mT_new {n : Nat} (hn : n < 1000) : mT n (keyN n) = fun _ => 0 := by
  funext x
  unfold mT
  rw [if_neg]
  rintro ⟨_, h⟩
  obtain ⟨i, hi, e⟩ := List.mem_map.1 h
  rw [List.mem_range] at hi
  have := keyN_inj (by omega) hn e
  omega
theorem mT_out {n i : Nat} (hn : n ≤ i) (hi : i < 1000) : mT n (keyN i) 2 = 0 := by
  unfold mT
  rw [if_neg]
  rintro ⟨_, h⟩
  obtain ⟨k, hk, e⟩ := List.mem_map.1 h
  rw [List.mem_range] at hk
  have := keyN_inj (by omega) hi e
  omega
theorem mT_next {n : Nat} (hn : n < 1000) : newT (mT n) (keyN n) (newH (mT n (keyN n)) 2 false) = mT (n + 1) := by
  funext j x
  rw [mT_new hn]
  unfold newT newH mT
  rw [List.range_succ, List.map_append]
  by_cases hj : j = keyN n
  · subst hj
    by_cases hx : x = 2
    · simp [hx]
    · simp [hx]
  · rw [if_neg hj]
    have : (j ∈ (List.range n).map keyN ++ [n].map keyN) ↔ j ∈ (List.range n).map keyN := by simp [hj]
    simp only [this]
theorem mH_next {n : Nat} (hn : n < 1000) : heldUp (mH n) (mT n (keyN n)) 2 = mH (n + 1) := by
  rw [mT_new hn]
  funext x
  unfold heldUp mH
  by_cases hx : x = 2 <;> simp [hx]
theorem ag_zero (who : Nat) (al : Bool) : agK (fun _ => 0) who al 16 = [] := by
  unfold agK isAg; simp
theorem ag_self (f : Nat → Nat) (who : Nat) (al : Bool) (h : ∀ x, x ≠ who → f x = 0) : agK f who al 16 = [] := by
  unfold agK
  rw [List.filter_eq_nil_iff]
  intro x _
  unfold isAg
  by_cases hx : x = who
  · simp [hx]
  · simp [h x hx]
theorem LockAt.none_left {w : World} {g m N : Nat} {T : List UInt8 → Nat → Nat} {held : Nat → Nat} {things : Nat} (h : LockAt w g m N T held things) (h0 : ∀ k, anyH (T k) = false) : things = 0 := by
  obtain ⟨D, c, h1, h2, h3, h4, h5⟩ := h.own
  have := size_of_keys h1 [] (by simp) (fun k => by rw [h3, h0]; simp)
  rw [← h5, this]; rfl
/-- three bytes as a text -/
theorem conv_three (W : World) (A B C : Nat) (hA : A < 100) (hB : B < 100) (hC : C < 100) : (convert 65 9 (.slice (some ⟨W.heap.size, 0, none⟩) 3 3)).run Try.prog (W.alloc (.cells #[.int .u8 (97 + (A : Int)), .int .u8 (97 + (B : Int)), .int .u8 (97 + (C : Int))] 5)) = .ok (.string (str [UInt8.ofNat (97 + A), UInt8.ofNat (97 + B), UInt8.ofNat (97 + C)])) (W.alloc (.cells #[.int .u8 (97 + (A : Int)), .int .u8 (97 + (B : Int)), .int .u8 (97 + (C : Int))] 5)) := by
  have h : ByteBlk (W.alloc (.cells #[.int .u8 (97 + (A : Int)), .int .u8 (97 + (B : Int)), .int .u8 (97 + (C : Int))] 5)) W.heap.size [UInt8.ofNat (97 + A), UInt8.ofNat (97 + B), UInt8.ofNat (97 + C)] := by
    have a1 : ∀ n : Nat, n < 100 → ((UInt8.ofNat (97 + n)).toNat : Int) = 97 + (n : Int) := fun n hn => by rw [UInt8.toNat_ofNat']; omega
    have e : (cellsOf [UInt8.ofNat (97 + A), UInt8.ofNat (97 + B), UInt8.ofNat (97 + C)]).toArray = #[.int .u8 (97 + (A : Int)), .int .u8 (97 + (B : Int)), .int .u8 (97 + (C : Int))] := by
      simp only [cellsOf, List.map_cons, List.map_nil, a1 A hA, a1 B hB, a1 C hC]
    unfold ByteBlk
    rw [e]; exact heap_alloc_new _ _
  exact h.text 3
set_option maxHeartbeats 4000000 in
theorem lockMost_walk (a0 : Int) (a1 : ByteArray) (w : World) (w0 : (Lit.int .i64 a0).wf = true) (w1 : a1.size ≤ maxLen) :
    Calls Try.prog 6 #[.int .i64 a0, .string a1] w fun e w' => e = .returned (.bool true) ∧ Below w.heap.size w w' := by
  obtain ⟨x, hx, hx4⟩ : ∃ x : Nat, bits .and .i64 a0 3 = (x : Int) ∧ x < 4 := ⟨(a0 % 4).toNat, by rw [and_3]; omega, by omega⟩
  obtain ⟨n, hn, hn1, hn2⟩ : ∃ n : Nat, (512 : Int) + (x : Int) = (n : Int) ∧ 512 ≤ n ∧ n < 516 := ⟨512 + x, by omega, by omega, by omega⟩
  have hb := Below.refl w.heap.size w
  replace hb := Lib.hid hb
  clear w0 w1
  go_enter Try.func6, Try.ntmps6
  go_wp2_with (go_at_call 21; (with_reducible refine (new_any _).mono ?_); rintro e w1 ⟨rfl, h1, b1⟩; replace h1 := Lib.hid h1; replace hb := Lib.hid b1; clear b1)
  go_loopg [7] n (fun gn s7 wr => ∃ (i th : Nat), s7 = .int .i64 (i : Int) ∧ i + gn = n ∧ LockAt wr (w.heap.size + 1) w.heap.size i (mT (min i 512)) (mH (min i 512)) th ∧ Below w.heap.size w wr)
  case atStart => exact ⟨0, 0, rfl, by omega, h1.out.congr (by funext j x; unfold mT; simp) (by funext x; unfold mH; simp) (Nat.le_refl _), hb.out⟩
  case round =>
    clear h1 hb
    obtain ⟨i, th, rfl, hik, hL, hb⟩ := hrel
    replace hL := Lib.hid hL; replace hb := Lib.hid hb
    by_cases hi : i < n
    · obtain ⟨K, rfl⟩ : ∃ K : Nat, gk = K + 1 := ⟨gk - 1, by omega⟩
      have i0 : (i : Int) < (n : Int) := by omega
      have i1 : (0 : Int) ≤ (i : Int) := by omega
      have i2 : (i : Int) ≤ 600 := by omega
      obtain ⟨A, hA, hA2, hA3⟩ : ∃ A : Nat, bits .and .i64 (i : Int) 15 = (A : Int) ∧ A < 16 ∧ A = i % 16 := ⟨i % 16, by rw [and_15]; omega, by omega, rfl⟩
      obtain ⟨B, hB, hB2, hB3⟩ : ∃ B : Nat, bits .and .i64 ((i : Int) / 16) 15 = (B : Int) ∧ B < 16 ∧ B = i / 16 % 16 := ⟨i / 16 % 16, by rw [and_15]; omega, by omega, rfl⟩
      obtain ⟨C, hC, hC2, hC3⟩ : ∃ C : Nat, (i : Int) / 256 = (C : Int) ∧ C < 16 ∧ C = i / 256 := ⟨i / 256, by omega, by omega, rfl⟩
      have hkey : str [UInt8.ofNat (97 + A), UInt8.ofNat (97 + B), UInt8.ofNat (97 + C)] = str (keyN i) := by rw [hA3, hB3, hC3]; rfl
      have hcv := fun W => conv_three W A B C (by omega) (by omega) (by omega)
      rw [hkey] at hcv
      clear hkey hA3 hB3 hC3
      by_cases h5 : i < 512
      · have e1 : min i 512 = i := by omega
        have e2 : min (i + 1) 512 = i + 1 := by omega
        rw [e1] at hL
        have c1 : ∀ W, LockAt W (w.heap.size + 1) w.heap.size i (mT i) (mH i) th → Calls Try.prog 24 #[.pointer (some ⟨w.heap.size + 1, 0, none⟩), .int .i64 2, .agg #[.string (str (keyN i)), .bool false]] W fun e w' => e = .returned (.tuple #[.slice none 0 0, .int .i64 0]) ∧ (∃ th', LockAt w' (w.heap.size + 1) w.heap.size (i + 1) (mT (i + 1)) (mH (i + 1)) th') ∧ Keeps [w.heap.size + 1, w.heap.size] W w' := fun W h => by
          have hz := mT_new (n := i) (by omega)
          have := take_ok h 2 (by decide) (keyN i) (by simp [keyN]) (by simp [keyN]) false (by unfold mH; simp; omega) (by rw [hz]; exact ag_zero _ _) (by omega) (by unfold mH; simp; omega)
          rw [mT_next (by omega), mH_next (by omega)] at this
          exact this.mono fun e w' ⟨h1, h2, h3⟩ => ⟨h1, ⟨_, h2⟩, h3⟩
        have i3 : (i : Int) < 512 := by omega
        replace c1 := Lib.hid c1; replace hik := Lib.hid hik; replace e2 := Lib.hid e2
        clear e1 h5 hi
        go_wp2_with (go_at_call 24; (with_reducible refine (c1.out _ (hL.out.below ((Below.refl _ _).alloc (Nat.le_refl _) _))).mono ?_); rintro e w2 ⟨rfl, ⟨th', h2⟩, k2⟩; replace h2 := Lib.hid h2; replace hb := Lib.hid ((hb.out.alloc hb.out.size _).trans (k2.below (Nat.le_trans hb.out.size (by simp)) (by intro y hy; simp at hy; rcases hy with rfl | rfl <;> omega))); clear k2)
        go_roundg K
        case measure => have := hik.out; omega
        case rel => exact ⟨i + 1, th', by go_num, by have := hik.out; omega, by rw [e2.out]; exact h2.out, hb.out⟩
      · have e1 : min i 512 = 512 := by omega
        have e2 : min (i + 1) 512 = 512 := by omega
        rw [e1] at hL
        have c1 : ∀ W, LockAt W (w.heap.size + 1) w.heap.size i (mT 512) (mH 512) th → Calls Try.prog 24 #[.pointer (some ⟨w.heap.size + 1, 0, none⟩), .int .i64 2, .agg #[.string (str (keyN i)), .bool false]] W fun e w' => e = .returned (.tuple #[.slice none 0 0, .int .i64 4]) ∧ Below W.heap.size W w' := fun W h => take_most h 2 (by decide) (keyN i) (by simp [keyN]) (by simp [keyN]) false (mT_out (by omega) (by omega)) (by unfold mH; simp)
        have i3 : ¬ (i : Int) < 512 := by omega
        replace c1 := Lib.hid c1; replace hik := Lib.hid hik; replace e2 := Lib.hid e2
        clear e1 h5 hi
        go_wp2_with (go_at_call 24; (with_reducible refine (c1.out _ (hL.out.below ((Below.refl _ _).alloc (Nat.le_refl _) _))).mono ?_); rintro e w2 ⟨rfl, b2⟩; have h2 := Lib.hid ((hL.out.below ((Below.refl _ _).alloc (Nat.le_refl _) _)).below b2); replace hb := Lib.hid (belowCont (hb.out.alloc hb.out.size _) b2); clear b2)
        go_roundg K
        case measure => have := hik.out; omega
        case rel => exact ⟨i + 1, th, by go_num, by have := hik.out; omega, by rw [e2.out]; exact h2.out.congr rfl rfl (by omega), hb.out⟩
    · obtain rfl : i = n := by omega
      rw [show min i 512 = 512 by omega] at hL
      have c1 : ∀ W, LockAt W (w.heap.size + 1) w.heap.size i (mT 512) (mH 512) th → Calls Try.prog 24 #[.pointer (some ⟨w.heap.size + 1, 0, none⟩), .int .i64 2, .agg #[.string ⟨#[97, 97, 97]⟩, .bool true]] W fun e w' => e = .returned (.tuple #[.slice none 0 0, .int .i64 0]) ∧ (∃ th', LockAt w' (w.heap.size + 1) w.heap.size (i + 1) (newT (mT 512) (keyN 0) (newH (mT 512 (keyN 0)) 2 true)) (mH 512) th') ∧ Keeps [w.heap.size + 1, w.heap.size] W w' := fun W h => by
        have h1 : mT 512 (keyN 0) 2 = 1 := by unfold mT; rw [if_pos ⟨rfl, List.mem_map.2 ⟨0, by simp, rfl⟩⟩]
        have := take_ok h 2 (by decide) (keyN 0) (by simp [keyN]) (by simp [keyN]) true (by rw [h1]; simp) (ag_self _ _ _ (fun x hx => by unfold mT; simp [hx])) (by omega) (by unfold mH; simp)
        have hh : heldUp (mH 512) (mT 512 (keyN 0)) 2 = mH 512 := by
          funext x; unfold heldUp; rw [h1]
          by_cases hx : x = 2 <;> simp [hx]
        rw [hh] at this
        exact this.mono fun e w' ⟨h1, h2, h3⟩ => ⟨h1, ⟨_, h2⟩, h3⟩
      have c2 : ∀ W, Calls Try.prog 24 #[.pointer (some ⟨w.heap.size + 1, 0, none⟩), .int .i64 1, .agg #[.string ⟨#[]⟩, .bool false]] W fun e w' => e = .returned (.tuple #[.slice none 0 0, .int .i64 1]) ∧ Below W.heap.size W w' := fun W => take_bad _ 1 ⟨#[]⟩ false W (.inr (.inr rfl))
      have c3 : ∀ W, Calls Try.prog 24 #[.pointer none, .int .i64 0, .agg #[.string a1, .bool false]] W fun e w' => e = .returned (.tuple #[.slice none 0 0, .int .i64 1]) ∧ Below W.heap.size W w' := fun W => take_bad _ 0 a1 false W (.inl rfl)
      have c4 : ∀ W th', LockAt W (w.heap.size + 1) w.heap.size (i + 1) (newT (mT 512) (keyN 0) (newH (mT 512 (keyN 0)) 2 true)) (mH 512) th' → Calls Try.prog 23 #[.pointer (some ⟨w.heap.size + 1, 0, none⟩), .int .i64 2] W fun e w' => e = .returned (.int .i64 512) ∧ (∃ T h, LockAt w' (w.heap.size + 1) w.heap.size (i + 1) T h 0) ∧ Keeps [w.heap.size + 1, w.heap.size] W w' := fun W th' h => by
        refine (free_any h 2 (by decide) (by unfold mH; simp) (by omega)).mono fun e w' ⟨h1, ⟨th2, h2⟩, h3⟩ => ⟨h1, ?_, h3⟩
        have h0 := h2.none_left (fun k => by
          unfold freeT freeH anyH
          rw [List.any_eq_false]
          intro x _
          by_cases hx : x = 2
          · simp [hx]
          · unfold newT newH mT
            by_cases hk : k = keyN 0 <;> simp [hk, hx])
        subst h0
        exact ⟨_, _, h2⟩
      have c5 : ∀ W, Calls Try.prog 23 #[.pointer none, .int .i64 0] W fun e w' => e = .returned (.int .i64 0) ∧ Below W.heap.size W w' := fun W => free_out none 0 (.inl rfl) W
      have c6 : ∀ W, Calls Try.prog 28 #[.pointer none, .int .i64 0] W fun e w' => e = .returned (.int .i64 0) ∧ Below W.heap.size W w' := fun W => held_out none 0 (.inl rfl) W
      replace c1 := Lib.hid c1; replace c2 := Lib.hid c2; replace c3 := Lib.hid c3; replace c4 := Lib.hid c4; replace c5 := Lib.hid c5; replace c6 := Lib.hid c6
      clear hik hi hn1 hn2 hn hx hx4
      go_wp2_with (first
        | (go_at_call 24; (with_reducible refine (c1.out _ hL.out).mono ?_); rintro e w2 ⟨rfl, ⟨th', h2⟩, k2⟩; replace h2 := Lib.hid h2; replace hb := Lib.hid (hb.out.trans (k2.below hb.out.size (by intro y hy; simp at hy; rcases hy with rfl | rfl <;> omega))); clear k2 hL)
        | (go_at_call 24; (with_reducible refine (c2.out _).mono ?_); rintro e w2 ⟨rfl, b2⟩; replace h2 := Lib.hid (h2.out.below b2); replace hb := Lib.hid (belowCont hb.out b2); clear b2)
        | (go_at_call 24; (with_reducible refine (c3.out _).mono ?_); rintro e w2 ⟨rfl, b2⟩; replace h2 := Lib.hid (h2.out.below b2); replace hb := Lib.hid (belowCont hb.out b2); clear b2)
        | (go_at_call 26; (with_reducible refine (who_nil _ _).mono ?_); rintro e w2 ⟨rfl, b2⟩; replace h2 := Lib.hid (h2.out.below b2); replace hb := Lib.hid (belowCont hb.out b2); clear b2)
        | (go_at_call 22; (with_reducible refine (awake_any _).mono ?_); rintro e w2 ⟨rfl, b2⟩; replace h2 := Lib.hid (h2.out.below b2); replace hb := Lib.hid (belowCont hb.out b2); clear b2)
        | (go_at_call 23; (with_reducible refine (c4.out _ _ h2.out).mono ?_); rintro e w3 ⟨rfl, ⟨T3, H3, h3⟩, k3⟩; replace h3 := Lib.hid h3; replace hb := Lib.hid (hb.out.trans (k3.below hb.out.size (by intro y hy; simp at hy; rcases hy with rfl | rfl <;> omega))); clear k3 h2)
        | (go_at_call 27; (with_reducible refine (len_any h3.out).mono ?_); rintro e w4 ⟨rfl, b4⟩; replace hb := Lib.hid (belowCont hb.out b4); clear b4 h3)
        | (go_at_call 23; (with_reducible refine (c5.out _).mono ?_); rintro e w4 ⟨rfl, b4⟩; replace hb := Lib.hid (belowCont hb.out b4); clear b4)
        | (go_at_call 28; (with_reducible refine (c6.out _).mono ?_); rintro e w4 ⟨rfl, b4⟩; replace hb := Lib.hid (belowCont hb.out b4); clear b4)
        | (go_at_call 27; (with_reducible refine (len_nil _).mono ?_); rintro e w4 ⟨rfl, b4⟩; replace hb := Lib.hid (belowCont hb.out b4); clear b4))
      go_ret
      exact ⟨rfl, hb.out⟩
end Go.Proofs.Ytmlphodmbkceoab.lock
