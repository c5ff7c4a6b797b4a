/- A block has the document's bytes, and is read again, at its place; more bytes than may be have none: the law BlockPuts. The table of salts is a premise. No other condition. -/
import Derived.Test.YtdhboldmffiklabDoorBlock7
namespace Go.Proofs.YtdhboldmffiklabDoor.sha
open Go.RowKit
attribute [local go_sem ↓] Go.wp_at_zero Go.wp_at_succ
attribute [local go_sem] str_size
set_option linter.unusedVariables false
set_option maxRecDepth 100000

theorem headB_block (m : List UInt8) (e c i p : Nat) (s : List UInt8) (he : e < 4294967296) (hc : c < 18446744073709551616) (hi : i < 4294967296) (h : s.length ≤ 462) : headB (blockB m e c i p s) = (e, c, i) := by
  have := get_block m e c i p s he hc hi h
  unfold getB at this
  rw [if_pos (blockB_len m e c i p s h)] at this
  split at this
  · split at this
    · injection this with h1 h2 h3
      exact Prod.ext h1 (Prod.ext h2 h3)
    · injection this with _ _ _ _ h5; cases h5
  · injection this with _ _ _ _ h5; cases h5
def masterL : List UInt8 := [109, 97, 115, 116, 101, 114]
theorem nat_u32 {a : Int} (h : (Lit.int .u32 a).wf = true) : ∃ n : Nat, a = (n : Int) ∧ n < 4294967296 := by
  have := (by simpa [Lit.wf, IntKind.min, IntKind.max, IntKind.signed, IntKind.bits] using h : 0 ≤ a ∧ a ≤ 4294967295)
  exact ⟨a.toNat, by omega, by omega⟩
theorem nat_u64 {a : Int} (h : (Lit.int .u64 a).wf = true) : ∃ n : Nat, a = (n : Int) ∧ n < 18446744073709551616 := by
  have := (by simpa [Lit.wf, IntKind.min, IntKind.max, IntKind.signed, IntKind.bits] using h : 0 ≤ a ∧ a ≤ 18446744073709551615)
  exact ⟨a.toNat, by omega, by omega⟩
theorem cut_min' (s : ByteArray) (k : Nat) : s.extract 0 (min (s.size : Int) k).toNat = str (s.data.toList.take k) := by
  have hl : s.data.toList.length = s.size := by rw [Array.length_toList]; rfl
  rw [cut_text]
  congr 1
  rw [List.take_eq_take_iff]; omega
set_option maxHeartbeats 4000000 in
theorem blockPuts_walk (a0_0 : Int) (a0_1 : Int) (a0_2 : Int) (a1 : Int) (a2 : ByteArray) (w : World) (w0_0 : (Lit.int .u32 a0_0).wf = true) (w0_1 : (Lit.int .u64 a0_1).wf = true) (w0_2 : (Lit.int .u32 a0_2).wf = true) (w1 : (Lit.int .i64 a1).wf = true) (w2 : a2.size ≤ reachBytes) (hT : SaltAt w salts) :
    Calls Tryd.prog 5 #[.agg #[.int .u32 a0_0, .int .u64 a0_1, .int .u32 a0_2], .int .i64 a1, .string a2] w fun e w' => e = .returned (.bool true) ∧ Below w.heap.size w w' := by
  obtain ⟨e, rfl, he⟩ := nat_u32 w0_0
  obtain ⟨c, rfl, hc⟩ := nat_u64 w0_1
  obtain ⟨i, rfl, hi⟩ := nat_u32 w0_2
  obtain ⟨p, hw, hp'⟩ := wrapP a1
  have ht : a2.extract 0 (min (a2.size : Int) 500).toNat = str (a2.data.toList.take 500) := cut_min' a2 500
  have m1 : (0 : Int) ≤ min (a2.size : Int) 500 := by omega
  have m2 : min (a2.size : Int) 500 ≤ (a2.size : Int) := by omega
  obtain ⟨T, hTT⟩ : ∃ T, T = a2.data.toList.take 500 := ⟨_, rfl⟩
  have hTl : T.length ≤ 500 := by rw [hTT, List.length_take]; omega
  rw [← hTT] at ht
  clear w0_0 w0_1 w0_2 w1 w2 hTT
  have c0 := fun W h => awake11 W h
  have hp := (Hp.none_ w []).alloc #[.int .u32 (e : Int), .int .u64 (c : Int), .int .u32 (i : Int)] 45
  replace hp := Lib.hid hp; replace hT := Lib.hid hT; replace c0 := Lib.hid c0
  by_cases hs : T.length ≤ 462
  · have hs2 : ¬ (462 : Int) < (T.length : Int) := by omega
    obtain ⟨X, hX⟩ : ∃ X, X = blockB masterL e c i p T := ⟨_, rfl⟩
    have hXl : X.length = 512 := by rw [hX]; exact blockB_len _ _ _ _ _ _ hs
    have c1 : ∀ W, SaltAt W salts → Calls Tryd.prog 26 #[.string ⟨#[109, 97, 115, 116, 101, 114]⟩, .agg #[.int .u32 (e : Int), .int .u64 (c : Int), .int .u32 (i : Int)], .int .i64 a1, .string (str T)] W fun e' w' => e' = .returned (.string (str X)) ∧ Below W.heap.size W w' := fun W h => by
      rw [hX]; exact bput_any masterL T e c i p a1 hw hp' he hc hi (by decide) hs W h
    have c2 : ∀ W, SaltAt W salts → Calls Tryd.prog 30 #[.string ⟨#[109, 97, 115, 116, 101, 114]⟩, .agg #[.int .u32 (e : Int), .int .u64 (c : Int), .int .u32 (i : Int)], .int .i64 a1, .string (str T)] W fun e' w' => e' = .returned (.string (str X)) ∧ Below W.heap.size W w' := fun W h => by
      rw [hX]; exact rput_any masterL T e c i p a1 hw hp' he hc hi (by decide) hs W h
    have c3 : ∀ W, SaltAt W salts → Calls Tryd.prog 28 #[.string ⟨#[109, 97, 115, 116, 101, 114]⟩, .int .i64 a1, .string (str X)] W fun e' w' => e' = .returned (.tuple #[.agg #[.int .u32 (e : Int), .int .u64 (c : Int), .int .u32 (i : Int)], .string (str T), .int .i64 0]) ∧ Below W.heap.size W w' := fun W h => by
      have := bget_any masterL X a1 p hw hp' (by decide) W h
      rw [hX, get_block masterL e c i p T he hc hi hs] at this
      rw [hX]
      exact this
    have c4 : ∀ W, Calls Tryd.prog 29 #[.string (str X)] W fun e' w' => e' = .returned (.tuple #[.agg #[.int .u32 (e : Int), .int .u64 (c : Int), .int .u32 (i : Int)], .int .i64 0]) ∧ Below W.heap.size W w' := fun W => by
      have := bhead_any X hXl W
      rw [hX, headB_block masterL e c i p T he hc hi hs] at this
      rw [hX]
      exact this
    have t1 : ((str X).toList == (str X).toList) = true := by simp
    have t2 : ((str T).toList == (str T).toList) = true := by simp
    replace c1 := Lib.hid c1; replace c2 := Lib.hid c2; replace c3 := Lib.hid c3; replace c4 := Lib.hid c4
    clear hX hXl hs hTl hw hp' he hc hi
    go_enter Tryd.func5, Tryd.ntmps5
    go_wp2_with (first
      | (go_at_call 26; (with_reducible refine (c1.out _ (hT.out.keep hp.out.bel)).mono ?_); rintro e' w1 ⟨rfl, b1⟩; replace hp := Lib.hid (hp.out.below b1); clear b1)
      | (go_at_call 28; (with_reducible refine (c3.out _ (hT.out.keep hp.out.bel)).mono ?_); rintro e' w2 ⟨rfl, b1⟩; replace hp := Lib.hid ((hp.out.below b1).alloc #[.int .u32 (e : Int), .int .u64 (c : Int), .int .u32 (i : Int)] 45); clear b1)
      | (go_at_call 29; (with_reducible refine (c4.out _).mono ?_); rintro e' w3 ⟨rfl, b1⟩; replace hp := Lib.hid ((hp.out.below b1).alloc #[.int .u32 (e : Int), .int .u64 (c : Int), .int .u32 (i : Int)] 45); clear b1)
      | (go_at_call 27; (with_reducible refine (c0.out _ (hT.out.keep hp.out.bel)).mono ?_); rintro e' w4 ⟨rfl, b1⟩; replace hp := Lib.hid (hp.out.below b1); clear b1; have hd := hp.out.box (i := 2) rfl; have d0 := cell_of_row _ _ 0 _ _ _ hd; have d1 := cell_of_row _ _ 1 _ _ _ hd; have d2 := cell_of_row _ _ 2 _ _ _ hd; simp at d0 d1 d2; clear hd)
      | (go_at_call 30; (with_reducible refine (c2.out _ (hT.out.keep hp.out.bel)).mono ?_); rintro e' w5 ⟨rfl, b1⟩; replace hp := Lib.hid (hp.out.below b1); clear b1; have hd := hp.out.box (i := 2) rfl; have d0 := cell_of_row _ _ 0 _ _ _ hd; have d1 := cell_of_row _ _ 1 _ _ _ hd; have d2 := cell_of_row _ _ 2 _ _ _ hd; simp at d0 d1 d2; clear hd; have hd := hp.out.box (i := 0) rfl; have k0 := cell_of_row _ _ 0 _ _ _ hd; have k1 := cell_of_row _ _ 1 _ _ _ hd; have k2 := cell_of_row _ _ 2 _ _ _ hd; simp at k0 k1 k2; clear hd; have hd := hp.out.box (i := 1) rfl; have g0 := cell_of_row _ _ 0 _ _ _ hd; have g1 := cell_of_row _ _ 1 _ _ _ hd; have g2 := cell_of_row _ _ 2 _ _ _ hd; simp at g0 g1 g2; clear hd))
    go_ret
    exact ⟨rfl, hp.out.bel⟩
  · have hs2 : (462 : Int) < (T.length : Int) := by omega
    have c1 : ∀ W, Calls Tryd.prog 26 #[.string ⟨#[109, 97, 115, 116, 101, 114]⟩, .agg #[.int .u32 (e : Int), .int .u64 (c : Int), .int .u32 (i : Int)], .int .i64 a1, .string (str T)] W fun e' w' => e' = .returned (.string ⟨#[]⟩) ∧ Below W.heap.size W w' := fun W => bput_many _ (str T) _ _ _ a1 (by rw [str_size]; omega) W
    replace c1 := Lib.hid c1
    clear hs hTl hw hp' he hc hi
    go_enter Tryd.func5, Tryd.ntmps5
    go_wp2_with (first
      | (go_at_call 26; (with_reducible refine (c1.out _).mono ?_); rintro e' w1 ⟨rfl, b1⟩; replace hp := Lib.hid (hp.out.below b1); clear b1)
      | (go_at_call 27; (with_reducible refine (c0.out _ (hT.out.keep hp.out.bel)).mono ?_); rintro e' w4 ⟨rfl, b1⟩; replace hp := Lib.hid (hp.out.below b1); clear b1))
    go_ret
    exact ⟨rfl, hp.out.bel⟩
end Go.Proofs.YtdhboldmffiklabDoor.sha
