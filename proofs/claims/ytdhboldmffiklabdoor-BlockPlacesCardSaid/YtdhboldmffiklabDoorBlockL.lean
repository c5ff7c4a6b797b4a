/- A block whose tag is another one at another place, or under another key, is not read there: the law BlockPlaces. The table of salts is a premise. No other condition. -/
import Derived.Test.YtdhboldmffiklabDoorBlockP
namespace Go.Proofs.YtdhboldmffiklabDoor.sha
open Go.RowKit
attribute [local go_sem ↓] Go.wp_at_zero Go.wp_at_succ
attribute [local go_sem] str_size
set_option linter.unusedVariables false
set_option maxRecDepth 100000

def otherL : List UInt8 := [111, 116, 104, 101, 114]
/-- what both packages say, in letters -/
theorem gots (m x : List UInt8) (pl : Int) (hm : m.length ≤ 1000000) : ∃ (e c i : Nat) (s : List UInt8) (r : Nat),
    (∀ W, SaltAt W salts → Calls Tryd.prog 28 #[.string (str m), .int .i64 pl, .string (str x)] W fun e' w' => e' = .returned (.tuple #[.agg #[.int .u32 (e : Int), .int .u64 (c : Int), .int .u32 (i : Int)], .string (str s), .int .i64 (r : Int)]) ∧ Below W.heap.size W w') ∧
    (∀ W, Calls Tryd.prog 33 #[.string (str m), .int .i64 pl, .string (str x)] W fun e' w' => e' = .returned (.tuple #[.agg #[.int .u32 (e : Int), .int .u64 (c : Int), .int .u32 (i : Int)], .string (str s), .int .i64 (r : Int)]) ∧ Below W.heap.size W w') := by
  obtain ⟨p, hw, hp⟩ := wrapP pl
  exact ⟨_, _, _, _, _, fun W h => bget_any m x pl p hw hp hm W h, fun W => rget_any m x pl p hw hp hm W⟩
set_option maxHeartbeats 4000000 in
theorem blockPlaces_walk (a0_0 : Int) (a0_1 : Int) (a0_2 : Int) (a1_0 : Int) (a1_1 : Int) (a2 : ByteArray) (w : World) (w0_0 : (Lit.int .u32 a0_0).wf = true) (w0_1 : (Lit.int .u64 a0_1).wf = true) (w0_2 : (Lit.int .u32 a0_2).wf = true) (w1_0 : (Lit.int .i64 a1_0).wf = true) (w1_1 : (Lit.int .i64 a1_1).wf = true) (w2 : a2.size ≤ reachBytes) (hT : SaltAt w salts) :
    Calls Tryd.prog 7 #[.agg #[.int .u32 a0_0, .int .u64 a0_1, .int .u32 a0_2], .agg #[.int .i64 a1_0, .int .i64 a1_1], .string a2] w fun e w' => e = .returned (.bool true) ∧ Below w.heap.size w w' := by
  obtain ⟨e, rfl, he⟩ := nat_u32 w0_0
  obtain ⟨c, rfl, hc⟩ := nat_u64 w0_1
  obtain ⟨i, rfl, hi⟩ := nat_u32 w0_2
  obtain ⟨p, hw, hp'⟩ := wrapP a1_0
  have ht : a2.extract 0 (min (a2.size : Int) 400).toNat = str (a2.data.toList.take 400) := cut_min' a2 400
  have m1 : (0 : Int) ≤ min (a2.size : Int) 400 := by omega
  have m2 : min (a2.size : Int) 400 ≤ (a2.size : Int) := by omega
  obtain ⟨T, hTT⟩ : ∃ T, T = a2.data.toList.take 400 := ⟨_, rfl⟩
  have hTl : T.length ≤ 400 := by rw [hTT, List.length_take]; omega
  rw [← hTT] at ht
  clear w0_0 w0_1 w0_2 w1_0 w1_1 w2 hTT
  have c0 := fun W h => awake11 W h
  have hp := ((Hp.none_ w []).alloc #[.int .u32 (e : Int), .int .u64 (c : Int), .int .u32 (i : Int)] 45).alloc #[.int .i64 a1_0, .int .i64 a1_1] 60
  have hsz : (w.alloc (.cells #[.int .u32 (e : Int), .int .u64 (c : Int), .int .u32 (i : Int)] 45)).heap.size = w.heap.size + 1 := by simp
  rw [hsz] at hp
  obtain ⟨X, hX⟩ : ∃ X, X = blockB masterL e c i p T := ⟨_, rfl⟩
  have hXl : X.length = 512 := by rw [hX]; exact blockB_len _ _ _ _ _ _ (by omega)
  have c1 : ∀ W, SaltAt W salts → Calls Tryd.prog 26 #[.string ⟨#[109, 97, 115, 116, 101, 114]⟩, .agg #[.int .u32 (e : Int), .int .u64 (c : Int), .int .u32 (i : Int)], .int .i64 a1_0, .string (str T)] W fun e' w' => e' = .returned (.string (str X)) ∧ Below W.heap.size W w' := fun W h => by
    rw [hX]; exact bput_any masterL T e c i p a1_0 hw hp' he hc hi (by decide) (by omega) W h
  obtain ⟨e1, c1', i1, s1, r1, g1, g2⟩ := gots masterL X a1_1 (by decide)
  obtain ⟨e2, c2', i2, s2, r2, g3, g4⟩ := gots otherL X a1_0 (by decide)
  have g1' : ∀ W, SaltAt W salts → Calls Tryd.prog 28 #[.string ⟨#[109, 97, 115, 116, 101, 114]⟩, .int .i64 a1_1, .string (str X)] W fun e' w' => e' = .returned (.tuple #[.agg #[.int .u32 (e1 : Int), .int .u64 (c1' : Int), .int .u32 (i1 : Int)], .string (str s1), .int .i64 (r1 : Int)]) ∧ Below W.heap.size W w' := g1
  have g2' : ∀ W, Calls Tryd.prog 33 #[.string ⟨#[109, 97, 115, 116, 101, 114]⟩, .int .i64 a1_1, .string (str X)] W fun e' w' => e' = .returned (.tuple #[.agg #[.int .u32 (e1 : Int), .int .u64 (c1' : Int), .int .u32 (i1 : Int)], .string (str s1), .int .i64 (r1 : Int)]) ∧ Below W.heap.size W w' := g2
  have g3' : ∀ W, SaltAt W salts → Calls Tryd.prog 28 #[.string ⟨#[111, 116, 104, 101, 114]⟩, .int .i64 a1_0, .string (str X)] W fun e' w' => e' = .returned (.tuple #[.agg #[.int .u32 (e2 : Int), .int .u64 (c2' : Int), .int .u32 (i2 : Int)], .string (str s2), .int .i64 (r2 : Int)]) ∧ Below W.heap.size W w' := g3
  have g4' : ∀ W, Calls Tryd.prog 33 #[.string ⟨#[111, 116, 104, 101, 114]⟩, .int .i64 a1_0, .string (str X)] W fun e' w' => e' = .returned (.tuple #[.agg #[.int .u32 (e2 : Int), .int .u64 (c2' : Int), .int .u32 (i2 : Int)], .string (str s2), .int .i64 (r2 : Int)]) ∧ Below W.heap.size W w' := g4
  have x256 : (str X).extract 0 256 = str (X.take 256) := by rw [cut_extract]; simp
  have c5 : ∀ W, Calls Tryd.prog 29 #[.string (str (X.take 256))] W fun e' w' => e' = .returned (.tuple #[.agg #[.int .u32 0, .int .u64 0, .int .u32 0], .int .i64 2]) ∧ Below W.heap.size W w' := fun W => bhead_not _ (by rw [str_size, List.length_take]; omega) W
  generalize str (X.take 256) = H2 at *
  have z5 : (str X).size = 512 := by rw [str_size]; exact hXl
  generalize str X = XX at *
  replace hp := Lib.hid hp; replace hT := Lib.hid hT; replace c0 := Lib.hid c0; replace c1 := Lib.hid c1; replace g1' := Lib.hid g1'; replace g2' := Lib.hid g2'; replace g3' := Lib.hid g3'; replace g4' := Lib.hid g4'; replace c5 := Lib.hid c5
  clear hX hXl hTl hw hp' he hc hi g1 g2 g3 g4 hsz
  go_enter Tryd.func7, Tryd.ntmps7
  go_upto_region 1 with fail
  generalize World.alloc (World.alloc w _) _ = W at hp ⊢
  have d0 := hp.out.cell (i := 1) rfl 0; have d1 := hp.out.cell (i := 1) rfl 1; have d2 := hp.out.cell (i := 1) rfl 2; have k0 := hp.out.cell (i := 0) rfl 0
  simp at d0 d1 d2 k0
  go_region_held3 (fun W' => Hp w [] [.box (w.heap.size + 1) #[.int .i64 a1_0, .int .i64 a1_1] 60, .box w.heap.size #[.int .u32 (e : Int), .int .u64 (c : Int), .int .u32 (i : Int)] 45] W' ∧ W'.cell? ⟨w.heap.size, 0, none⟩ = some (.int .u32 (e : Int)) ∧ W'.cell? ⟨w.heap.size, 1, none⟩ = some (.int .u64 (c : Int)) ∧ W'.cell? ⟨w.heap.size, 2, none⟩ = some (.int .u32 (i : Int)) ∧ W'.cell? ⟨w.heap.size + 1, 0, none⟩ = some (.int .i64 a1_0))
    (first | exact ⟨hp.out.drew, d0, d1, d2, k0⟩ | (go_split_ands; have hq := Hp.below (by assumption) (by assumption); exact ⟨hq, hq.cell (i := 1) rfl 0, hq.cell (i := 1) rfl 1, hq.cell (i := 1) rfl 2, hq.cell (i := 0) rfl 0⟩))
    (first
      | (go_at_call 26; (with_reducible refine (c1.out _ (hT.out.keep (Hp.bel (by go_split_ands; assumption)))).mono ?_); rintro e' w1 ⟨rfl, hb⟩))
  go_split_ands
  replace hp := Lib.hid (show Hp w [] [.box (w.heap.size + 1) #[.int .i64 a1_0, .int .i64 a1_1] 60, .box w.heap.size #[.int .u32 (e : Int), .int .u64 (c : Int), .int .u32 (i : Int)] 45] w1 by assumption)
  have k0 := hp.out.cell (i := 0) rfl 0; have k1 := hp.out.cell (i := 0) rfl 1
  simp at k0 k1
  go_wp2_with (first
    | (go_at_call 28; (with_reducible refine (g1'.out _ (hT.out.keep hp.out.bel)).mono ?_); rintro e' w2 ⟨rfl, b1⟩; replace hp := Lib.hid ((hp.out.below b1).alloc_ (.cells #[.int .u32 (e1 : Int), .int .u64 (c1' : Int), .int .u32 (i1 : Int)] 45)); clear b1; have k0 := hp.out.cell (i := 0) rfl 0; have k1 := hp.out.cell (i := 0) rfl 1; simp at k0 k1)
    | (go_at_call 33; (with_reducible refine (g2'.out _).mono ?_); rintro e' w2 ⟨rfl, b1⟩; replace hp := Lib.hid ((hp.out.below b1).alloc_ (.cells #[.int .u32 (e1 : Int), .int .u64 (c1' : Int), .int .u32 (i1 : Int)] 45)); clear b1; have k0 := hp.out.cell (i := 0) rfl 0; have k1 := hp.out.cell (i := 0) rfl 1; simp at k0 k1)
    | (go_at_call 28; (with_reducible refine (g3'.out _ (hT.out.keep hp.out.bel)).mono ?_); rintro e' w2 ⟨rfl, b1⟩; replace hp := Lib.hid ((hp.out.below b1).alloc_ (.cells #[.int .u32 (e2 : Int), .int .u64 (c2' : Int), .int .u32 (i2 : Int)] 45)); clear b1; have k0 := hp.out.cell (i := 0) rfl 0; have k1 := hp.out.cell (i := 0) rfl 1; simp at k0 k1)
    | (go_at_call 33; (with_reducible refine (g4'.out _).mono ?_); rintro e' w2 ⟨rfl, b1⟩; replace hp := Lib.hid ((hp.out.below b1).alloc_ (.cells #[.int .u32 (e2 : Int), .int .u64 (c2' : Int), .int .u32 (i2 : Int)] 45)); clear b1)
    | (go_at_call 29; (with_reducible refine (c5.out _).mono ?_); rintro e' w3 ⟨rfl, b1⟩; replace hp := Lib.hid ((hp.out.below b1).alloc_ (.cells #[.int .u32 0, .int .u64 0, .int .u32 0] 45)); clear b1)
    | (go_at_call 27; (with_reducible refine (c0.out _ (hT.out.keep hp.out.bel)).mono ?_); rintro e' w4 ⟨rfl, b1⟩; replace hp := Lib.hid (hp.out.below b1); clear b1))
  go_ret
  exact ⟨rfl, hp.out.bel⟩
end Go.Proofs.YtdhboldmffiklabDoor.sha
