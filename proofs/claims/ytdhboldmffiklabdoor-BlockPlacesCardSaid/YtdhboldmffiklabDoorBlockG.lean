/- [SaltR] The table of salts, at the head of a row's list that holds others, too. [BlockP] A block has the document's bytes, and is read again, at its place; more bytes than may be have none: the law BlockPuts. The table of salts is a premise. No other condition. [BlockL] A block whose tag is another one at another place, or under another key, is not read there: the law BlockPlaces. The table of salts is a premise. No other condition. [BlockG] Whatever bytes come, with a tag that is right or another one: block.Get answers as the document does: the law BlockGets. The table of salts is a premise. No other condition. -/
import Derived.Test.YtdhboldmffiklabDoorShaLaws
import Derived.Test.YtdhboldmffiklabDoorBlock7
import Derived.Lib.BufferWrite
import Derived.Deep.DeepCutAuto
/-! ## SaltR -/
section
namespace Go.Proofs.YtdhboldmffiklabDoor.sha
open Go.RowKit
set_option linter.unusedVariables false
set_option maxRecDepth 100000
theorem saltAt_head {W : World} {rest : List (String × DataW Unit)} (h : laidMet Tryd.prog (("lodestone/sha.salts", Lib.tabData .u32 saltsI) :: rest) W) : SaltAt W salts := by
  have ht : Lib.TabIs Tryd.prog W "lodestone/sha.salts" .u32 saltsI := Lib.tabIs_of_head (rest := rest) gTab gTabType Tryd.underlying251 Tryd.underlying42 cellsOne cellsTab h
  have hc : ∀ i, i < 64 → W.cell? ⟨1, i, none⟩ = some (.int .u32 ((salts.getD i 0 : Nat) : Int)) := fun i hi => by
    have h1 := ht.cell gTab i (by simp [saltsI, salts_len]; exact hi)
    have e : saltsI.getD i 0 = ((salts.getD i 0 : Nat) : Int) := by
      have : i < salts.length := by rw [salts_len]; exact hi
      simp [saltsI, List.getD, List.getElem?_eq_getElem this]
    rw [e] at h1; exact h1
  exact ⟨hc, World.block_lt_of_cell? W _ (hc 0 (by decide))⟩
end Go.Proofs.YtdhboldmffiklabDoor.sha
end
/-! ## BlockP -/
section
namespace Go.Proofs.YtdhboldmffiklabDoor.sha
open Go.RowKit
attribute [local go_sem ↓] Go.wp_at_zero Go.wp_at_succ
attribute [local go_sem] str_size
set_option linter.unusedVariables false
set_option maxRecDepth 100000

theorem headB_block (m : List UInt8) (e c i p : Nat) (s : List UInt8) (he : e < 4294967296) (hc : c < 18446744073709551616) (hi : i < 4294967296) (h : s.length ≤ 462) : headB (blockB m e c i p s) = (e, c, i) := by
  have := get_block m e c i p s he hc hi h
  unfold getB at this
  rw [if_pos (blockB_len m e c i p s h)] at this
  split at this
  · split at this
    · injection this with h1 h2 h3
      exact Prod.ext h1 (Prod.ext h2 h3)
    · injection this with _ _ _ _ h5; cases h5
  · injection this with _ _ _ _ h5; cases h5
def masterL : List UInt8 := [109, 97, 115, 116, 101, 114]
theorem nat_u32 {a : Int} (h : (Lit.int .u32 a).wf = true) : ∃ n : Nat, a = (n : Int) ∧ n < 4294967296 := by
  have := (by simpa [Lit.wf, IntKind.min, IntKind.max, IntKind.signed, IntKind.bits] using h : 0 ≤ a ∧ a ≤ 4294967295)
  exact ⟨a.toNat, by omega, by omega⟩
theorem nat_u64 {a : Int} (h : (Lit.int .u64 a).wf = true) : ∃ n : Nat, a = (n : Int) ∧ n < 18446744073709551616 := by
  have := (by simpa [Lit.wf, IntKind.min, IntKind.max, IntKind.signed, IntKind.bits] using h : 0 ≤ a ∧ a ≤ 18446744073709551615)
  exact ⟨a.toNat, by omega, by omega⟩
theorem cut_min' (s : ByteArray) (k : Nat) : s.extract 0 (min (s.size : Int) k).toNat = str (s.data.toList.take k) := by
  have hl : s.data.toList.length = s.size := by rw [Array.length_toList]; rfl
  rw [cut_text]
  congr 1
  rw [List.take_eq_take_iff]; omega
set_option maxHeartbeats 4000000 in
theorem blockPuts_walk (a0_0 : Int) (a0_1 : Int) (a0_2 : Int) (a1 : Int) (a2 : ByteArray) (w : World) (w0_0 : (Lit.int .u32 a0_0).wf = true) (w0_1 : (Lit.int .u64 a0_1).wf = true) (w0_2 : (Lit.int .u32 a0_2).wf = true) (w1 : (Lit.int .i64 a1).wf = true) (w2 : a2.size ≤ reachBytes) (hT : SaltAt w salts) :
    Calls Tryd.prog 5 #[.agg #[.int .u32 a0_0, .int .u64 a0_1, .int .u32 a0_2], .int .i64 a1, .string a2] w fun e w' => e = .returned (.bool true) ∧ Below w.heap.size w w' := by
  obtain ⟨e, rfl, he⟩ := nat_u32 w0_0
  obtain ⟨c, rfl, hc⟩ := nat_u64 w0_1
  obtain ⟨i, rfl, hi⟩ := nat_u32 w0_2
  obtain ⟨p, hw, hp'⟩ := wrapP a1
  have ht : a2.extract 0 (min (a2.size : Int) 500).toNat = str (a2.data.toList.take 500) := cut_min' a2 500
  have m1 : (0 : Int) ≤ min (a2.size : Int) 500 := by omega
  have m2 : min (a2.size : Int) 500 ≤ (a2.size : Int) := by omega
  obtain ⟨T, hTT⟩ : ∃ T, T = a2.data.toList.take 500 := ⟨_, rfl⟩
  have hTl : T.length ≤ 500 := by rw [hTT, List.length_take]; omega
  rw [← hTT] at ht
  clear w0_0 w0_1 w0_2 w1 w2 hTT
  have c0 := fun W h => awake11 W h
  have hp := (Hp.none_ w []).alloc #[.int .u32 (e : Int), .int .u64 (c : Int), .int .u32 (i : Int)] 45
  replace hp := Lib.hid hp; replace hT := Lib.hid hT; replace c0 := Lib.hid c0
  by_cases hs : T.length ≤ 462
  · have hs2 : ¬ (462 : Int) < (T.length : Int) := by omega
    obtain ⟨X, hX⟩ : ∃ X, X = blockB masterL e c i p T := ⟨_, rfl⟩
    have hXl : X.length = 512 := by rw [hX]; exact blockB_len _ _ _ _ _ _ hs
    have c1 : ∀ W, SaltAt W salts → Calls Tryd.prog 26 #[.string ⟨#[109, 97, 115, 116, 101, 114]⟩, .agg #[.int .u32 (e : Int), .int .u64 (c : Int), .int .u32 (i : Int)], .int .i64 a1, .string (str T)] W fun e' w' => e' = .returned (.string (str X)) ∧ Below W.heap.size W w' := fun W h => by
      rw [hX]; exact bput_any masterL T e c i p a1 hw hp' he hc hi (by decide) hs W h
    have c2 : ∀ W, SaltAt W salts → Calls Tryd.prog 30 #[.string ⟨#[109, 97, 115, 116, 101, 114]⟩, .agg #[.int .u32 (e : Int), .int .u64 (c : Int), .int .u32 (i : Int)], .int .i64 a1, .string (str T)] W fun e' w' => e' = .returned (.string (str X)) ∧ Below W.heap.size W w' := fun W h => by
      rw [hX]; exact rput_any masterL T e c i p a1 hw hp' he hc hi (by decide) hs W h
    have c3 : ∀ W, SaltAt W salts → Calls Tryd.prog 28 #[.string ⟨#[109, 97, 115, 116, 101, 114]⟩, .int .i64 a1, .string (str X)] W fun e' w' => e' = .returned (.tuple #[.agg #[.int .u32 (e : Int), .int .u64 (c : Int), .int .u32 (i : Int)], .string (str T), .int .i64 0]) ∧ Below W.heap.size W w' := fun W h => by
      have := bget_any masterL X a1 p hw hp' (by decide) W h
      rw [hX, get_block masterL e c i p T he hc hi hs] at this
      rw [hX]
      exact this
    have c4 : ∀ W, Calls Tryd.prog 29 #[.string (str X)] W fun e' w' => e' = .returned (.tuple #[.agg #[.int .u32 (e : Int), .int .u64 (c : Int), .int .u32 (i : Int)], .int .i64 0]) ∧ Below W.heap.size W w' := fun W => by
      have := bhead_any X hXl W
      rw [hX, headB_block masterL e c i p T he hc hi hs] at this
      rw [hX]
      exact this
    have t1 : ((str X).toList == (str X).toList) = true := by simp
    have t2 : ((str T).toList == (str T).toList) = true := by simp
    replace c1 := Lib.hid c1; replace c2 := Lib.hid c2; replace c3 := Lib.hid c3; replace c4 := Lib.hid c4
    clear hX hXl hs hTl hw hp' he hc hi
    go_enter Tryd.func5, Tryd.ntmps5
    go_wp2_with (first
      | (go_at_call 26; (with_reducible refine (c1.out _ (hT.out.keep hp.out.bel)).mono ?_); rintro e' w1 ⟨rfl, b1⟩; replace hp := Lib.hid (hp.out.below b1); clear b1)
      | (go_at_call 28; (with_reducible refine (c3.out _ (hT.out.keep hp.out.bel)).mono ?_); rintro e' w2 ⟨rfl, b1⟩; replace hp := Lib.hid ((hp.out.below b1).alloc #[.int .u32 (e : Int), .int .u64 (c : Int), .int .u32 (i : Int)] 45); clear b1)
      | (go_at_call 29; (with_reducible refine (c4.out _).mono ?_); rintro e' w3 ⟨rfl, b1⟩; replace hp := Lib.hid ((hp.out.below b1).alloc #[.int .u32 (e : Int), .int .u64 (c : Int), .int .u32 (i : Int)] 45); clear b1)
      | (go_at_call 27; (with_reducible refine (c0.out _ (hT.out.keep hp.out.bel)).mono ?_); rintro e' w4 ⟨rfl, b1⟩; replace hp := Lib.hid (hp.out.below b1); clear b1; have hd := hp.out.box (i := 2) rfl; have d0 := cell_of_row _ _ 0 _ _ _ hd; have d1 := cell_of_row _ _ 1 _ _ _ hd; have d2 := cell_of_row _ _ 2 _ _ _ hd; simp at d0 d1 d2; clear hd)
      | (go_at_call 30; (with_reducible refine (c2.out _ (hT.out.keep hp.out.bel)).mono ?_); rintro e' w5 ⟨rfl, b1⟩; replace hp := Lib.hid (hp.out.below b1); clear b1; have hd := hp.out.box (i := 2) rfl; have d0 := cell_of_row _ _ 0 _ _ _ hd; have d1 := cell_of_row _ _ 1 _ _ _ hd; have d2 := cell_of_row _ _ 2 _ _ _ hd; simp at d0 d1 d2; clear hd; have hd := hp.out.box (i := 0) rfl; have k0 := cell_of_row _ _ 0 _ _ _ hd; have k1 := cell_of_row _ _ 1 _ _ _ hd; have k2 := cell_of_row _ _ 2 _ _ _ hd; simp at k0 k1 k2; clear hd; have hd := hp.out.box (i := 1) rfl; have g0 := cell_of_row _ _ 0 _ _ _ hd; have g1 := cell_of_row _ _ 1 _ _ _ hd; have g2 := cell_of_row _ _ 2 _ _ _ hd; simp at g0 g1 g2; clear hd))
    go_ret
    exact ⟨rfl, hp.out.bel⟩
  · have hs2 : (462 : Int) < (T.length : Int) := by omega
    have c1 : ∀ W, Calls Tryd.prog 26 #[.string ⟨#[109, 97, 115, 116, 101, 114]⟩, .agg #[.int .u32 (e : Int), .int .u64 (c : Int), .int .u32 (i : Int)], .int .i64 a1, .string (str T)] W fun e' w' => e' = .returned (.string ⟨#[]⟩) ∧ Below W.heap.size W w' := fun W => bput_many _ (str T) _ _ _ a1 (by rw [str_size]; omega) W
    replace c1 := Lib.hid c1
    clear hs hTl hw hp' he hc hi
    go_enter Tryd.func5, Tryd.ntmps5
    go_wp2_with (first
      | (go_at_call 26; (with_reducible refine (c1.out _).mono ?_); rintro e' w1 ⟨rfl, b1⟩; replace hp := Lib.hid (hp.out.below b1); clear b1)
      | (go_at_call 27; (with_reducible refine (c0.out _ (hT.out.keep hp.out.bel)).mono ?_); rintro e' w4 ⟨rfl, b1⟩; replace hp := Lib.hid (hp.out.below b1); clear b1))
    go_ret
    exact ⟨rfl, hp.out.bel⟩
end Go.Proofs.YtdhboldmffiklabDoor.sha
end
/-! ## BlockL -/
section
namespace Go.Proofs.YtdhboldmffiklabDoor.sha
open Go.RowKit
attribute [local go_sem ↓] Go.wp_at_zero Go.wp_at_succ
attribute [local go_sem] str_size
set_option linter.unusedVariables false
set_option maxRecDepth 100000

def otherL : List UInt8 := [111, 116, 104, 101, 114]
/-- what both packages say, in letters -/
theorem gots (m x : List UInt8) (pl : Int) (hm : m.length ≤ 1000000) : ∃ (e c i : Nat) (s : List UInt8) (r : Nat),
    (∀ W, SaltAt W salts → Calls Tryd.prog 28 #[.string (str m), .int .i64 pl, .string (str x)] W fun e' w' => e' = .returned (.tuple #[.agg #[.int .u32 (e : Int), .int .u64 (c : Int), .int .u32 (i : Int)], .string (str s), .int .i64 (r : Int)]) ∧ Below W.heap.size W w') ∧
    (∀ W, Calls Tryd.prog 33 #[.string (str m), .int .i64 pl, .string (str x)] W fun e' w' => e' = .returned (.tuple #[.agg #[.int .u32 (e : Int), .int .u64 (c : Int), .int .u32 (i : Int)], .string (str s), .int .i64 (r : Int)]) ∧ Below W.heap.size W w') := by
  obtain ⟨p, hw, hp⟩ := wrapP pl
  exact ⟨_, _, _, _, _, fun W h => bget_any m x pl p hw hp hm W h, fun W => rget_any m x pl p hw hp hm W⟩
set_option maxHeartbeats 4000000 in
theorem blockPlaces_walk (a0_0 : Int) (a0_1 : Int) (a0_2 : Int) (a1_0 : Int) (a1_1 : Int) (a2 : ByteArray) (w : World) (w0_0 : (Lit.int .u32 a0_0).wf = true) (w0_1 : (Lit.int .u64 a0_1).wf = true) (w0_2 : (Lit.int .u32 a0_2).wf = true) (w1_0 : (Lit.int .i64 a1_0).wf = true) (w1_1 : (Lit.int .i64 a1_1).wf = true) (w2 : a2.size ≤ reachBytes) (hT : SaltAt w salts) :
    Calls Tryd.prog 7 #[.agg #[.int .u32 a0_0, .int .u64 a0_1, .int .u32 a0_2], .agg #[.int .i64 a1_0, .int .i64 a1_1], .string a2] w fun e w' => e = .returned (.bool true) ∧ Below w.heap.size w w' := by
  obtain ⟨e, rfl, he⟩ := nat_u32 w0_0
  obtain ⟨c, rfl, hc⟩ := nat_u64 w0_1
  obtain ⟨i, rfl, hi⟩ := nat_u32 w0_2
  obtain ⟨p, hw, hp'⟩ := wrapP a1_0
  have ht : a2.extract 0 (min (a2.size : Int) 400).toNat = str (a2.data.toList.take 400) := cut_min' a2 400
  have m1 : (0 : Int) ≤ min (a2.size : Int) 400 := by omega
  have m2 : min (a2.size : Int) 400 ≤ (a2.size : Int) := by omega
  obtain ⟨T, hTT⟩ : ∃ T, T = a2.data.toList.take 400 := ⟨_, rfl⟩
  have hTl : T.length ≤ 400 := by rw [hTT, List.length_take]; omega
  rw [← hTT] at ht
  clear w0_0 w0_1 w0_2 w1_0 w1_1 w2 hTT
  have c0 := fun W h => awake11 W h
  have hp := ((Hp.none_ w []).alloc #[.int .u32 (e : Int), .int .u64 (c : Int), .int .u32 (i : Int)] 45).alloc #[.int .i64 a1_0, .int .i64 a1_1] 60
  have hsz : (w.alloc (.cells #[.int .u32 (e : Int), .int .u64 (c : Int), .int .u32 (i : Int)] 45)).heap.size = w.heap.size + 1 := by simp
  rw [hsz] at hp
  obtain ⟨X, hX⟩ : ∃ X, X = blockB masterL e c i p T := ⟨_, rfl⟩
  have hXl : X.length = 512 := by rw [hX]; exact blockB_len _ _ _ _ _ _ (by omega)
  have c1 : ∀ W, SaltAt W salts → Calls Tryd.prog 26 #[.string ⟨#[109, 97, 115, 116, 101, 114]⟩, .agg #[.int .u32 (e : Int), .int .u64 (c : Int), .int .u32 (i : Int)], .int .i64 a1_0, .string (str T)] W fun e' w' => e' = .returned (.string (str X)) ∧ Below W.heap.size W w' := fun W h => by
    rw [hX]; exact bput_any masterL T e c i p a1_0 hw hp' he hc hi (by decide) (by omega) W h
  obtain ⟨e1, c1', i1, s1, r1, g1, g2⟩ := gots masterL X a1_1 (by decide)
  obtain ⟨e2, c2', i2, s2, r2, g3, g4⟩ := gots otherL X a1_0 (by decide)
  have g1' : ∀ W, SaltAt W salts → Calls Tryd.prog 28 #[.string ⟨#[109, 97, 115, 116, 101, 114]⟩, .int .i64 a1_1, .string (str X)] W fun e' w' => e' = .returned (.tuple #[.agg #[.int .u32 (e1 : Int), .int .u64 (c1' : Int), .int .u32 (i1 : Int)], .string (str s1), .int .i64 (r1 : Int)]) ∧ Below W.heap.size W w' := g1
  have g2' : ∀ W, Calls Tryd.prog 33 #[.string ⟨#[109, 97, 115, 116, 101, 114]⟩, .int .i64 a1_1, .string (str X)] W fun e' w' => e' = .returned (.tuple #[.agg #[.int .u32 (e1 : Int), .int .u64 (c1' : Int), .int .u32 (i1 : Int)], .string (str s1), .int .i64 (r1 : Int)]) ∧ Below W.heap.size W w' := g2
  have g3' : ∀ W, SaltAt W salts → Calls Tryd.prog 28 #[.string ⟨#[111, 116, 104, 101, 114]⟩, .int .i64 a1_0, .string (str X)] W fun e' w' => e' = .returned (.tuple #[.agg #[.int .u32 (e2 : Int), .int .u64 (c2' : Int), .int .u32 (i2 : Int)], .string (str s2), .int .i64 (r2 : Int)]) ∧ Below W.heap.size W w' := g3
  have g4' : ∀ W, Calls Tryd.prog 33 #[.string ⟨#[111, 116, 104, 101, 114]⟩, .int .i64 a1_0, .string (str X)] W fun e' w' => e' = .returned (.tuple #[.agg #[.int .u32 (e2 : Int), .int .u64 (c2' : Int), .int .u32 (i2 : Int)], .string (str s2), .int .i64 (r2 : Int)]) ∧ Below W.heap.size W w' := g4
  have x256 : (str X).extract 0 256 = str (X.take 256) := by rw [cut_extract]; simp
  have c5 : ∀ W, Calls Tryd.prog 29 #[.string (str (X.take 256))] W fun e' w' => e' = .returned (.tuple #[.agg #[.int .u32 0, .int .u64 0, .int .u32 0], .int .i64 2]) ∧ Below W.heap.size W w' := fun W => bhead_not _ (by rw [str_size, List.length_take]; omega) W
  generalize str (X.take 256) = H2 at *
  have z5 : (str X).size = 512 := by rw [str_size]; exact hXl
  generalize str X = XX at *
  replace hp := Lib.hid hp; replace hT := Lib.hid hT; replace c0 := Lib.hid c0; replace c1 := Lib.hid c1; replace g1' := Lib.hid g1'; replace g2' := Lib.hid g2'; replace g3' := Lib.hid g3'; replace g4' := Lib.hid g4'; replace c5 := Lib.hid c5
  clear hX hXl hTl hw hp' he hc hi g1 g2 g3 g4 hsz
  go_enter Tryd.func7, Tryd.ntmps7
  go_upto_region 1 with fail
  generalize World.alloc (World.alloc w _) _ = W at hp ⊢
  have d0 := hp.out.cell (i := 1) rfl 0; have d1 := hp.out.cell (i := 1) rfl 1; have d2 := hp.out.cell (i := 1) rfl 2; have k0 := hp.out.cell (i := 0) rfl 0
  simp at d0 d1 d2 k0
  go_region_held3 (fun W' => Hp w [] [.box (w.heap.size + 1) #[.int .i64 a1_0, .int .i64 a1_1] 60, .box w.heap.size #[.int .u32 (e : Int), .int .u64 (c : Int), .int .u32 (i : Int)] 45] W' ∧ W'.cell? ⟨w.heap.size, 0, none⟩ = some (.int .u32 (e : Int)) ∧ W'.cell? ⟨w.heap.size, 1, none⟩ = some (.int .u64 (c : Int)) ∧ W'.cell? ⟨w.heap.size, 2, none⟩ = some (.int .u32 (i : Int)) ∧ W'.cell? ⟨w.heap.size + 1, 0, none⟩ = some (.int .i64 a1_0))
    (first | exact ⟨hp.out.drew, d0, d1, d2, k0⟩ | (go_split_ands; have hq := Hp.below (by assumption) (by assumption); exact ⟨hq, hq.cell (i := 1) rfl 0, hq.cell (i := 1) rfl 1, hq.cell (i := 1) rfl 2, hq.cell (i := 0) rfl 0⟩))
    (first
      | (go_at_call 26; (with_reducible refine (c1.out _ (hT.out.keep (Hp.bel (by go_split_ands; assumption)))).mono ?_); rintro e' w1 ⟨rfl, hb⟩))
  go_split_ands
  replace hp := Lib.hid (show Hp w [] [.box (w.heap.size + 1) #[.int .i64 a1_0, .int .i64 a1_1] 60, .box w.heap.size #[.int .u32 (e : Int), .int .u64 (c : Int), .int .u32 (i : Int)] 45] w1 by assumption)
  have k0 := hp.out.cell (i := 0) rfl 0; have k1 := hp.out.cell (i := 0) rfl 1
  simp at k0 k1
  go_wp2_with (first
    | (go_at_call 28; (with_reducible refine (g1'.out _ (hT.out.keep hp.out.bel)).mono ?_); rintro e' w2 ⟨rfl, b1⟩; replace hp := Lib.hid ((hp.out.below b1).alloc_ (.cells #[.int .u32 (e1 : Int), .int .u64 (c1' : Int), .int .u32 (i1 : Int)] 45)); clear b1; have k0 := hp.out.cell (i := 0) rfl 0; have k1 := hp.out.cell (i := 0) rfl 1; simp at k0 k1)
    | (go_at_call 33; (with_reducible refine (g2'.out _).mono ?_); rintro e' w2 ⟨rfl, b1⟩; replace hp := Lib.hid ((hp.out.below b1).alloc_ (.cells #[.int .u32 (e1 : Int), .int .u64 (c1' : Int), .int .u32 (i1 : Int)] 45)); clear b1; have k0 := hp.out.cell (i := 0) rfl 0; have k1 := hp.out.cell (i := 0) rfl 1; simp at k0 k1)
    | (go_at_call 28; (with_reducible refine (g3'.out _ (hT.out.keep hp.out.bel)).mono ?_); rintro e' w2 ⟨rfl, b1⟩; replace hp := Lib.hid ((hp.out.below b1).alloc_ (.cells #[.int .u32 (e2 : Int), .int .u64 (c2' : Int), .int .u32 (i2 : Int)] 45)); clear b1; have k0 := hp.out.cell (i := 0) rfl 0; have k1 := hp.out.cell (i := 0) rfl 1; simp at k0 k1)
    | (go_at_call 33; (with_reducible refine (g4'.out _).mono ?_); rintro e' w2 ⟨rfl, b1⟩; replace hp := Lib.hid ((hp.out.below b1).alloc_ (.cells #[.int .u32 (e2 : Int), .int .u64 (c2' : Int), .int .u32 (i2 : Int)] 45)); clear b1)
    | (go_at_call 29; (with_reducible refine (c5.out _).mono ?_); rintro e' w3 ⟨rfl, b1⟩; replace hp := Lib.hid ((hp.out.below b1).alloc_ (.cells #[.int .u32 0, .int .u64 0, .int .u32 0] 45)); clear b1)
    | (go_at_call 27; (with_reducible refine (c0.out _ (hT.out.keep hp.out.bel)).mono ?_); rintro e' w4 ⟨rfl, b1⟩; replace hp := Lib.hid (hp.out.below b1); clear b1))
  go_ret
  exact ⟨rfl, hp.out.bel⟩
end Go.Proofs.YtdhboldmffiklabDoor.sha
end
/-! ## BlockG -/
section
namespace Go.Proofs.YtdhboldmffiklabDoor.sha
open Go.RowKit
attribute [local go_sem ↓] Go.wp_at_zero Go.wp_at_succ
attribute [local go_sem] str_size str_append
set_option linter.unusedVariables false
set_option maxRecDepth 100000

/-- 'copy(b, s)', s any text: as much of it as there is room for -/
theorem run_copy_cut {P : Program} (w : World) (dT sT ty elem : TypeId) (g o dLen dCap : Nat) (s : ByteArray) (cur : Array Value) (t : TypeId)
    (hu : P.underlying dT = some (.slice elem)) (hs : (P.info? elem).map (·.size) = some 1) (hg : w.heap[g]? = some (.cells cur t (0, 0))) (hfit : o + min s.size dLen ≤ cur.size) :
    (Builtin.copy_ #[dT, sT] ty #[.slice (some ⟨g, o, none⟩) dLen dCap, .string s]).run P w =
      .ok (goInt (min s.size dLen : Nat)) (w.setRow g (cur.toList.take o ++ Lib.byteCells (s.data.toList.take (min s.size dLen)) ++ cur.toList.drop (o + min s.size dLen)).toArray) := by
  have hl : s.data.toList.length = s.size := by rw [Array.length_toList]; rfl
  obtain ⟨m, hm⟩ : ∃ m, m = min s.size dLen := ⟨_, rfl⟩
  have hlen : (Lib.byteCells (s.data.toList.take m)).length = m := by rw [Lib.byteCells_length, List.length_take, hl, hm]; omega
  have hst := run_storeCells_at P g o t (Lib.byteCells (s.data.toList.take m)) 0 cur w hg (by rw [hlen, hm]; simpa using hfit) (Lib.byteCells_one _)
  have hmin : Nat.min s.size dLen = m := hm.symm
  have htk : List.take m (List.map (fun b : UInt8 => Value.int IntKind.u8 (b.toNat : Int)) s.data.toList) = Lib.byteCells (s.data.toList.take m) := by
    rw [Lib.byteCells, List.map_take]
  rw [← hm]
  rw [hlen] at hst
  simp only [Nat.add_zero] at hst
  cases hq : P.info? elem with
  | none => simp [hq] at hs
  | some i =>
    simp [Builtin.copy_, run_underlying hu, Builtin.lenOf, Builtin.firstCells, sizeOf, typeInfo, hq, hmin]
    rw [htk, hst]
    simp [Result.andThen]
theorem wpList_copy_any {w : World} {ops : Array Oper} {rest : List Oper} {o : Oper} {a : Act} {Q : Exit → Act → World → Prop} (hgd : o.guard = none) (d x : Operand)
    (ho : o.op = .call { callee := .builtin .copy, args := #[d, x], argTypes := #[52, 9] }) (q n cap : Nat) (L l : List UInt8) (hd : a.eval d = .slice (some ⟨q, 0, none⟩) n cap) (hx : a.eval x = .string (str l))
    (hL : ByteBlk w q L) (h2 : L.length = n)
    (h : ∀ w', ByteBlk w' q (l.take n ++ L.drop (min l.length n)) → Keeps [q] w w' → wpList Tryd.prog ops Q rest (a.put o.dst (.int .i64 ((min l.length n : Nat) : Int))) w') : wpList Tryd.prog ops Q (o :: rest) a w := by
  refine wpList_plain hgd fun K hK => ?_
  have hs1 : (Tryd.prog.info? 5).map (·.size) = some 1 := by kernel_rfl
  have hrun := run_copy_cut (P := Tryd.prog) w 52 9 o.type 5 q 0 n cap (str l) (cellsOf L).toArray 5 Tryd.underlying52 hs1 hL (by rw [str_size]; simp [cellsOf]; omega)
  have e : ((cellsOf L).toArray.toList.take 0 ++ Go.Lib.byteCells ((str l).data.toList.take (min (str l).size n)) ++ (cellsOf L).toArray.toList.drop (0 + min (str l).size n)).toArray = (cellsOf (l.take n ++ L.drop (min l.length n))).toArray := by
    rw [str_size, cellsOf_append, show l.take n = l.take (min l.length n) by rw [List.take_eq_take_iff]; omega]
    simp [cellsOf, str, Go.Lib.byteCells]
  rw [e] at hrun
  unfold Oper.wp
  simp [execOp, ho, resolve, invoke, builtin, hd, hx, hrun, Result.andThen]
  have hh := h _ (setRow_heap w q _ _ 5 (0, 0) hL) (keepsRow w q _)
  rw [str_size]
  exact hK _ _ (by first | exact hh | simpa [Int.natCast_min] using hh)

theorem conv_four' (W : World) (a b c d : Int) : (convert 52 9 (.slice (some ⟨W.heap.size, 0, none⟩) 4 4)).run Tryd.prog (W.alloc (.cells #[.int .u8 a, .int .u8 b, .int .u8 c, .int .u8 d] 5)) = .ok (.string (str [UInt8.ofNat a.toNat, UInt8.ofNat b.toNat, UInt8.ofNat c.toNat, UInt8.ofNat d.toNat])) (W.alloc (.cells #[.int .u8 a, .int .u8 b, .int .u8 c, .int .u8 d] 5)) := by
  rw [run_convert_bytes_arg (P := Tryd.prog) (W.alloc (.cells #[.int .u8 a, .int .u8 b, .int .u8 c, .int .u8 d] 5)) 52 5 Tryd.underlying52 Tryd.underlying5 W.heap.size 0 4 4 [a, b, c, d] rfl (fun i hi => by
    have : i = 0 ∨ i = 1 ∨ i = 2 ∨ i = 3 := by omega
    rcases this with rfl | rfl | rfl | rfl
    · exact newCell W _ _ 0
    · exact newCell W _ _ 1
    · exact newCell W _ _ 2
    · exact newCell W _ _ 3) 9 Tryd.underlying9]
  rfl
theorem conv_four_drew' (W : World) (a b c d : Int) : (convert 52 9 (.slice (some ⟨W.heap.size, 0, none⟩) 4 4)).run Tryd.prog (W.alloc (.cells #[.int .u8 a, .int .u8 b, .int .u8 c, .int .u8 d] 5)).drew = .ok (.string (str [UInt8.ofNat a.toNat, UInt8.ofNat b.toNat, UInt8.ofNat c.toNat, UInt8.ofNat d.toNat])) (W.alloc (.cells #[.int .u8 a, .int .u8 b, .int .u8 c, .int .u8 d] 5)).drew := by
  rw [run_convert_bytes_arg (P := Tryd.prog) (W.alloc (.cells #[.int .u8 a, .int .u8 b, .int .u8 c, .int .u8 d] 5)).drew 52 5 Tryd.underlying52 Tryd.underlying5 W.heap.size 0 4 4 [a, b, c, d] rfl (fun i hi => by
    have : i = 0 ∨ i = 1 ∨ i = 2 ∨ i = 3 := by omega
    rcases this with rfl | rfl | rfl | rfl
    · exact newCell W _ _ 0
    · exact newCell W _ _ 1
    · exact newCell W _ _ 2
    · exact newCell W _ _ 3) 9 Tryd.underlying9]
  rfl
attribute [local go_sem] conv_four' conv_four_drew'
/-- the document's tag of any text -/
theorem rtag_some (G : List UInt8) (hG : G.length ≤ 1000) (s : ByteArray) (hs : s.size ≤ 100000) (w : World) : Calls Tryd.prog 32 #[.string (str G), .string s] w fun e w' => (∃ T : List UInt8, e = .returned (.string (str T)) ∧ T.length = 32) ∧ Below w.heap.size w w' := by
  obtain ⟨l, rfl⟩ : ∃ l, s = str l := ⟨s.data.toList, (str_of _).symm⟩
  rw [str_size] at hs
  exact (rtag_any G l (by omega) (by omega) w).mono fun e w' ⟨h1, h2⟩ => ⟨⟨_, h1, tagL_len G l⟩, h2⟩
def padL (S : List UInt8) : List UInt8 := S.take 512 ++ (List.replicate 512 0).drop (min S.length 512)
theorem padL_len (S : List UInt8) : (padL S).length = 512 := by simp [padL]; omega
set_option maxHeartbeats 4000000 in
theorem blockGets_walk (a0 : ByteArray) (a1 : Int) (a2 : Bool) (w : World) (w0 : a0.size ≤ reachBytes) (w1 : (Lit.int .i64 a1).wf = true) (hT : SaltAt w salts) :
    Calls Tryd.prog 6 #[.string a0, .int .i64 a1, .bool a2] w fun e w' => e = .returned (.bool true) ∧ Below w.heap.size w w' := by
  obtain ⟨p, hw, hp'⟩ := wrapP a1
  obtain ⟨S, rfl⟩ : ∃ S, a0 = str S := ⟨a0.data.toList, (str_of _).symm⟩
  rw [str_size] at w0
  have hmk : ∀ W, (Instr.makeSlice 52 (.int .i64 512) (.int .i64 512)).run Tryd.prog W = .ok (.slice (some ⟨W.heap.size, 0, none⟩) 512 512) (W.alloc (.cells (madeCells (Value.int .u8 0).cells 512) 5)) := fun W => run_make_bytes 512 (by omega) W
  have hb0 := byteBlk_made w 512
  have hp : Hp w [] [] (w.alloc (.cells (madeCells (Value.int .u8 0).cells 512) 5)) := (Hp.none_ w []).alloc_ _
  have c0 := fun W h => awake11 W h
  clear w1
  replace hw := Lib.hid hw; replace hp' := Lib.hid hp'; replace w0 := Lib.hid w0
  replace hT := Lib.hid hT; replace c0 := Lib.hid c0; replace hb0 := Lib.hid hb0; replace hp := Lib.hid hp
  go_enter Tryd.func6, Tryd.ntmps6
  go_upto_region 2 with fail
  have hbel := hp.out.bel
  go_upto_region 3 with (refine wpList_copy_any rfl (.tmp 21) (.tmp 22) rfl w.heap.size 512 512 (List.replicate 512 0) S rfl rfl hb0.out (by simp) ?_; intro w5 B5 K5; replace B5 := Lib.hid B5; replace K5 := Lib.hid K5)
  have hp5 : Hp w [] [] w5 := (Hp.none_ w []).below (hbel.trans (K5.out.below (by simp) (by simp)))
  have ht : (convert 52 9 (.slice (some ⟨w.heap.size, 0, none⟩) 512 512)).run Tryd.prog w5 = .ok (.string (str (padL S))) w5 := by
    have := ByteBlk.text B5.out 512
    rwa [show (S.take 512 ++ (List.replicate 512 (0 : UInt8)).drop (min S.length 512)).length = 512 from padL_len S] at this
  replace hp5 := Lib.hid hp5
  clear hp hbel hb0 K5 B5 hmk
  go_upto_if 28 with fail
  go_cut [8] (fun s8 wx => ∃ X : List UInt8, s8 = .string (str X) ∧ 512 ≤ X.length ∧ X.length ≤ 140737488355328 ∧ wx = w5)
  case first =>
    by_cases h512 : 512 < S.length
    · have q1 : (512 : Int) < (S.length : Int) := by omega
      go_wp2_with fail
      go_meet
      exact ⟨S, rfl, by omega, by have := w0.out; unfold reachBytes at this; omega, rfl⟩
    · have q1 : ¬ (512 : Int) < (S.length : Int) := by omega
      go_wp2_with fail
      go_meet
      exact ⟨padL S, rfl, by rw [padL_len]; exact Nat.le_refl _, by rw [padL_len]; decide, rfl⟩
  case rest =>
    obtain ⟨X, rfl, hX1, hX2, rfl⟩ := hcut
    go_upto_if 30 with fail
    go_cut [8] (fun s8 wx => ∃ Y : List UInt8, s8 = .string (str Y) ∧ Hp w [] [] wx)
    case first =>
      cases a2 with
      | false =>
        go_wp2_with fail
        go_meet
        exact ⟨X, rfl, hp5.out⟩
      | true =>
        have z1 : (0 : Int) ≤ 512 := by omega
        have z2 : (512 : Int) ≤ (X.length : Int) := by omega
        have z3 : (480 : Int) ≤ (X.length : Int) := by omega
        have x512 : (str X).extract 0 512 = str (X.take 512) := by rw [cut_extract]; simp
        have hh := bhead_any (X.take 512) (by rw [List.length_take]; omega)
        have x480 : (str X).extract 0 480 = str (X.take 480) := by rw [cut_extract]; simp
        have x4 : (str X).extract 4 480 = str ((X.drop 4).take 476) := by rw [cut_extract]
        have hA : (X.take 480).length = 480 := by rw [List.length_take]; omega
        have hD : ((X.drop 4).take 476).length = 476 := by rw [List.length_take, List.length_drop]; omega
        obtain ⟨e, c, i, he, hc⟩ : ∃ e c i : Nat, e < 4294967296 ∧ ∀ W, Calls Tryd.prog 29 #[.string (str (X.take 512))] W fun e' w' => e' = .returned (.tuple #[.agg #[.int .u32 (e : Int), .int .u64 (c : Int), .int .u32 (i : Int)], .int .i64 0]) ∧ Below W.heap.size W w' := ⟨_, _, _, (by have h4 := code.beNat_lt ((X.take 512).take 4); have h5 : ((X.take 512).take 4).length = 4 := (by rw [List.length_take, List.length_take]; omega); rw [h5] at h4; exact Nat.lt_of_lt_of_le h4 (by decide)), hh⟩
        have hk : ∀ W, Calls Tryd.prog 31 #[.string ⟨#[109, 97, 115, 116, 101, 114]⟩, .int .u32 (e : Int)] W fun e' w' => e' = .returned (.tuple #[.string (str (keyT masterL e)), .string (str (keyG masterL e))]) ∧ Below W.heap.size W w' := fun W => rkeys_any masterL e he (by decide) W
        have hGl := keyG_len masterL e
        generalize keyG masterL e = G at *
        generalize keyT masterL e = KT at *
        generalize X.take 512 = X5 at *
        generalize X.take 480 = A at *
        generalize (X.drop 4).take 476 = D at *
        have ht2 := fun s hs W => rtag_some G (by omega) s hs W
        have r1 : ¬ 9223372036854775807 < 4 + D.length := by omega
        replace ht2 := Lib.hid ht2; replace hk := Lib.hid hk; replace hc := Lib.hid hc; replace hA := Lib.hid hA; replace hD := Lib.hid hD; replace hp5 := Lib.hid hp5
        clear hX1 hX2 hGl hh ht he
        go_upto_region 10 with (first
          | (go_at_call 29; (with_reducible refine (hc.out _).mono ?_); rintro e' w6 ⟨rfl, b1⟩; replace hp5 := Lib.hid ((hp5.out.below b1).alloc #[.int .u32 (e : Int), .int .u64 (c : Int), .int .u32 (i : Int)] 45); clear b1; have k0 := hp5.out.cell (i := 0) rfl 0; simp at k0)
          | (go_at_call 31; (with_reducible refine (hk.out _).mono ?_); rintro e' w7 ⟨rfl, b1⟩; replace hp5 := Lib.hid ((hp5.out.below b1).drop 0); clear b1))
        have hB := Below.refl w7.heap.size w7
        replace hB := Lib.hid hB
        go_region_with (go_at_call 32; (with_reducible refine (ht2.out _ (by simp [str_size]; have := hD.out; omega) _).mono ?_); rintro e' w8 ⟨⟨T, rfl, hT8⟩, b8⟩; have r2 : ¬ 9223372036854775807 < A.length + T.length := by have := hA.out; omega)
        have hp6 : Hp w [] [] w7 := hp5.out
        have hfin : Hp w [] [] w8 := ((hp6.alloc_ _).drew).below b8
        replace hfin := Lib.hid hfin
        clear b8 hp5 hp6
        go_wp2_with fail
        go_meet
        exact ⟨A ++ T, rfl, hfin.out⟩
    case rest =>
      obtain ⟨Y, rfl, hpY⟩ := hcut
      obtain ⟨e1, c1, i1, s1, r1, g1, g2⟩ := gots masterL Y a1 (by decide)
      have g1' : ∀ W, SaltAt W salts → Calls Tryd.prog 28 #[.string ⟨#[109, 97, 115, 116, 101, 114]⟩, .int .i64 a1, .string (str Y)] W fun e' w' => e' = .returned (.tuple #[.agg #[.int .u32 (e1 : Int), .int .u64 (c1 : Int), .int .u32 (i1 : Int)], .string (str s1), .int .i64 (r1 : Int)]) ∧ Below W.heap.size W w' := g1
      have g2' : ∀ W, Calls Tryd.prog 33 #[.string ⟨#[109, 97, 115, 116, 101, 114]⟩, .int .i64 a1, .string (str Y)] W fun e' w' => e' = .returned (.tuple #[.agg #[.int .u32 (e1 : Int), .int .u64 (c1 : Int), .int .u32 (i1 : Int)], .string (str s1), .int .i64 (r1 : Int)]) ∧ Below W.heap.size W w' := g2
      have t1 : ((str s1).toList == (str s1).toList) = true := by simp
      generalize str Y = YY at *
      generalize str s1 = SS at *
      replace g1' := Lib.hid g1'; replace g2' := Lib.hid g2'; replace hpY := Lib.hid hpY
      clear hp5 ht hX1 hX2 g1 g2
      go_wp2_with (first
        | (go_at_call 28; (with_reducible refine (g1'.out _ (hT.out.keep hpY.out.bel)).mono ?_); rintro e' w2 ⟨rfl, b1⟩; replace hpY := Lib.hid ((hpY.out.below b1).alloc #[.int .u32 (e1 : Int), .int .u64 (c1 : Int), .int .u32 (i1 : Int)] 45); clear b1)
        | (go_at_call 33; (with_reducible refine (g2'.out _).mono ?_); rintro e' w2 ⟨rfl, b1⟩; replace hpY := Lib.hid ((hpY.out.below b1).alloc #[.int .u32 (e1 : Int), .int .u64 (c1 : Int), .int .u32 (i1 : Int)] 45); clear b1)
        | (go_at_call 27; (with_reducible refine (c0.out _ (hT.out.keep hpY.out.bel)).mono ?_); rintro e' w5 ⟨rfl, b1⟩; replace hpY := Lib.hid (hpY.out.below b1); clear b1; have d0 := hpY.out.cell (i := 0) rfl 0; have d1 := hpY.out.cell (i := 0) rfl 1; have d2 := hpY.out.cell (i := 0) rfl 2; have k0 := hpY.out.cell (i := 1) rfl 0; have k1 := hpY.out.cell (i := 1) rfl 1; have k2 := hpY.out.cell (i := 1) rfl 2; simp at d0 d1 d2 k0 k1 k2))
      go_ret
      exact ⟨rfl, hpY.out.bel⟩
end Go.Proofs.YtdhboldmffiklabDoor.sha
end
