/- An anchor that mostly may be (lodestonelaw12.near). Texts are not longer than a machine bears. -/
import Derived.Test.YtdhboldmffiklabAnchor9
import Derived.StillTailTactics
namespace Go.Proofs.Ytdhboldmffiklab.anchor
open Go.RowKit
attribute [local go_sem ↓] Go.wp_at_zero Go.wp_at_succ
attribute [local go_sem] str_size
set_option linter.unusedVariables false
set_option maxRecDepth 100000
attribute [local go_sem] World.frozen?_setCell

theorem and_4095 (x : Int) : bits .and .i64 x 4095 = x % 4096 := and_mask x 12 4095 (by decide) (by decide)
theorem and_7 (x : Int) : bits .and .i64 x 7 = x % 8 := and_mask x 3 7 (by decide) (by decide)
def digits : ByteArray := ⟨#[48, 49, 50, 51, 52, 53, 54, 55, 56, 57, 97, 98, 99, 100, 101, 102, 48, 49, 50, 51, 52, 53, 54, 55, 56, 57, 97, 98, 99, 100, 101, 102]⟩
theorem sum_any (s : ByteArray) (hs : s.size ≤ 140737488355328) (w : World) : Calls Try.prog 49 #[.string s] w fun e w' => e = .returned (.string ((s ++ digits).extract 0 32)) ∧ w' = w := by
  have hd : digits.size = 32 := rfl
  have hz : (s ++ digits).size = s.size + 32 := by rw [ByteArray.size_append, hd]
  have hroom : ¬ 9223372036854775807 < s.size + 32 := by omega
  have h32 : (32 : Int) ≤ ((s ++ digits).size : Int) := by rw [hz]; omega
  have hsi : (32 : Int) ≤ (s.size : Int) + 32 := by omega
  go_enter Try.func49, Try.ntmps49
  go_wp2
  go_ret
  exact ⟨rfl, rfl⟩
theorem sum_size (s : ByteArray) : ((s ++ digits).extract 0 32).size = 32 := by
  have hd : digits.size = 32 := rfl
  rw [ByteArray.size_extract, ByteArray.size_append, hd]; omega
/-- 'near' on its way: what came, the result, what it becomes -/
structure NS (w : World) (xs cs : Array Value) (W : World) : Prop where
  a : W.heap[w.heap.size]? = some (.cells xs 27 (0, 0))
  r : W.heap[w.heap.size + 1]? = some (.cells #[.int .u64 0, .int .u32 0, .bool false, .string ⟨#[]⟩, .int .i64 0, .string ⟨#[]⟩, .int .i64 0, .int .i64 0, .string ⟨#[]⟩] 27 (0, 0))
  x : W.heap[w.heap.size + 1 + 1]? = some (.cells cs 27 (0, 0))
  bel : Below w.heap.size w W
namespace NS
variable {w W : World} {xs cs : Array Value}
theorem start (w : World) (xs : Array Value) : NS w xs xs (((w.alloc (.cells xs 27)).alloc (.cells #[.int .u64 0, .int .u32 0, .bool false, .string ⟨#[]⟩, .int .i64 0, .string ⟨#[]⟩, .int .i64 0, .int .i64 0, .string ⟨#[]⟩] 27)).alloc (.cells xs 27)) := by
  have s1 : (w.alloc (.cells xs 27)).heap.size = w.heap.size + 1 := by simp
  have s2 : ((w.alloc (.cells xs 27)).alloc (.cells #[.int .u64 0, .int .u32 0, .bool false, .string ⟨#[]⟩, .int .i64 0, .string ⟨#[]⟩, .int .i64 0, .int .i64 0, .string ⟨#[]⟩] 27)).heap.size = w.heap.size + 1 + 1 := by simp
  refine ⟨?_, ?_, ?_, ?_⟩
  · rw [Below.heap_alloc _ _ _ (by rw [s2]; omega), Below.heap_alloc _ _ _ (by rw [s1]; omega)]; exact heap_alloc_new w _
  · rw [Below.heap_alloc _ _ _ (by rw [s2]; omega), ← s1]; exact heap_alloc_new _ _
  · rw [← s2]; exact heap_alloc_new _ _
  · exact (((Below.refl _ _).alloc (Nat.le_refl _) _).alloc (by simp) _).alloc (by rw [s2]; omega) _
theorem drew (h : NS w xs cs W) : NS w xs cs W.drew := ⟨h.a, h.r, h.x, h.bel.drew⟩
theorem put (h : NS w xs cs W) (i : Nat) (v : Value) (cs' : Array Value) (e : cs.setIfInBounds i v = cs') : NS w xs cs' (W.setCell ⟨w.heap.size + 1 + 1, i, none⟩ v) := by
  subst e
  refine ⟨(Below.heap_setCell W _ _ _ (by show w.heap.size ≠ w.heap.size + 1 + 1; omega)).trans h.a, (Below.heap_setCell W _ _ _ (by show w.heap.size + 1 ≠ w.heap.size + 1 + 1; omega)).trans h.r, ?_, h.bel.setCell (p := ⟨w.heap.size + 1 + 1, i, none⟩) (Nat.le_trans (Nat.le_succ _) (Nat.le_succ _)) _⟩
  simp [World.setCell, Array.getElem?_modify, h.x]
theorem ac (h : NS w xs cs W) (i : Nat) : W.cell? ⟨w.heap.size, i, none⟩ = xs[i]? := cell_of_row _ _ i _ _ _ h.a
theorem xc (h : NS w xs cs W) (i : Nat) : W.cell? ⟨w.heap.size + 1 + 1, i, none⟩ = cs[i]? := cell_of_row _ _ i _ _ _ h.x
theorem xf (h : NS w xs cs W) (i : Nat) : W.frozen? ⟨w.heap.size + 1 + 1, i, none⟩ = false := by simp [World.frozen?, h.x]
theorem rc (h : NS w xs cs W) (i : Nat) : W.cell? ⟨w.heap.size + 1, i, none⟩ = (#[.int .u64 0, .int .u32 0, .bool false, .string ⟨#[]⟩, .int .i64 0, .string ⟨#[]⟩, .int .i64 0, .int .i64 0, .string ⟨#[]⟩] : Array Value)[i]? := cell_of_row _ _ i _ _ _ h.r
theorem rf (h : NS w xs cs W) (i : Nat) : W.frozen? ⟨w.heap.size + 1, i, none⟩ = false := by simp [World.frozen?, h.r]
end NS
/-- what 'near' gives -/
def NearPost (gen ep : Int) (w : World) (e : Ending) (w' : World) : Prop := ∃ (T : Bool) (N : ByteArray) (P : Int) (S : ByteArray) (F M : Int) (C : ByteArray), e = .returned (.agg #[.int .u64 gen, .int .u32 ep, .bool T, .string N, .int .i64 P, .string S, .int .i64 F, .int .i64 M, .string C]) ∧ (N.size ≤ 140737488355328 ∧ S.size ≤ 140737488355328 ∧ C.size ≤ 140737488355328) ∧ Below w.heap.size w w'
theorem near_end {w V : World} {xs : Array Value} {gen ep P F M : Int} {T : Bool} {N S C : ByteArray} {a : Act} (h : NS w xs #[.int .u64 gen, .int .u32 ep, .bool T, .string N, .int .i64 P, .string S, .int .i64 F, .int .i64 M, .string C] V) (hz : N.size ≤ 140737488355328 ∧ S.size ≤ 140737488355328 ∧ C.size ≤ 140737488355328) (hp : a.tmps.getD 4 undef = .pointer (some ⟨w.heap.size + 1, 0, none⟩)) (hd : a.defers = []) :
    bodyPost Try.prog Try.f8 (fun e w' => NearPost gen ep w e w') .ret a (((((((((V.setCell ⟨w.heap.size + 1, 0, none⟩ (.int .u64 gen)).setCell ⟨w.heap.size + 1, 1, none⟩ (.int .u32 ep)).setCell ⟨w.heap.size + 1, 2, none⟩ (.bool T)).setCell ⟨w.heap.size + 1, 3, none⟩ (.string N)).setCell ⟨w.heap.size + 1, 4, none⟩ (.int .i64 P)).setCell ⟨w.heap.size + 1, 5, none⟩ (.string S)).setCell ⟨w.heap.size + 1, 6, none⟩ (.int .i64 F)).setCell ⟨w.heap.size + 1, 7, none⟩ (.int .i64 M)).setCell ⟨w.heap.size + 1, 8, none⟩ (.string C)) := by
  refine bodyPost_ret (v := .agg #[.int .u64 gen, .int .u32 ep, .bool T, .string N, .int .i64 P, .string S, .int .i64 F, .int .i64 M, .string C]) (results_cell_row rfl _ _ (w.heap.size + 1) 27 #[.int .u64 gen, .int .u32 ep, .bool T, .string N, .int .i64 P, .string S, .int .i64 F, .int .i64 M, .string C] (0, 0) _ hp (by simp [World.setCell, Array.getElem?_modify, h.r]) Try.underlying27 rfl (by kernel_rfl)) hd ?_
  have hle : w.heap.size ≤ w.heap.size + 1 := Nat.le_succ _
  exact ⟨T, N, P, S, F, M, C, rfl, hz, (((((((((h.bel.setCell (p := ⟨w.heap.size + 1, 0, none⟩) hle _).setCell (p := ⟨w.heap.size + 1, 1, none⟩) hle _).setCell (p := ⟨w.heap.size + 1, 2, none⟩) hle _).setCell (p := ⟨w.heap.size + 1, 3, none⟩) hle _).setCell (p := ⟨w.heap.size + 1, 4, none⟩) hle _).setCell (p := ⟨w.heap.size + 1, 5, none⟩) hle _).setCell (p := ⟨w.heap.size + 1, 6, none⟩) hle _).setCell (p := ⟨w.heap.size + 1, 7, none⟩) hle _).setCell (p := ⟨w.heap.size + 1, 8, none⟩) hle _)⟩
set_option maxHeartbeats 8000000 in
theorem near_any (gen ep : Int) (tu : Bool) (nx : ByteArray) (pl : Int) (sm : ByteArray) (fr mn : Int) (ch : ByteArray) (odd : Int) (hnx : nx.size ≤ 140737488355328) (hch : ch.size ≤ 140737488355328) (hsm : sm.size ≤ 140737488355328) (w : World) :
    Calls Try.prog 8 #[.agg #[.int .u64 gen, .int .u32 ep, .bool tu, .string nx, .int .i64 pl, .string sm, .int .i64 fr, .int .i64 mn, .string ch], .int .i64 odd] w fun e w' => NearPost gen ep w e w' := by
  obtain ⟨f, hf, hf2⟩ : ∃ f : Nat, bits .and .i64 fr 4095 = (f : Int) ∧ f < 4096 := ⟨(fr % 4096).toNat, by rw [and_4095]; omega, by omega⟩
  obtain ⟨m, hm, hm2⟩ : ∃ f : Nat, bits .and .i64 mn 4095 = (f : Int) ∧ f < 4096 := ⟨(mn % 4096).toNat, by rw [and_4095]; omega, by omega⟩
  obtain ⟨p, hp, hp2⟩ : ∃ f : Nat, bits .and .i64 pl 4095 = (f : Int) ∧ f < 4096 := ⟨(pl % 4096).toNat, by rw [and_4095]; omega, by omega⟩
  have cc := fun w' => sum_any ch hch w'
  have cs := fun w' => sum_any sm hsm w'
  obtain ⟨C, hC⟩ : ∃ x, x = (ch ++ digits).extract 0 32 := ⟨_, rfl⟩
  obtain ⟨S, hS⟩ : ∃ x, x = (sm ++ digits).extract 0 32 := ⟨_, rfl⟩
  simp only [← hC] at cc
  simp only [← hS] at cs
  have hSz : S.size ≤ 140737488355328 := by rw [hS, sum_size]; omega
  have hCz : C.size ≤ 140737488355328 := by rw [hC, sum_size]; omega
  replace hC := Lib.hid hC; replace hS := Lib.hid hS
  go_enter Try.func8, Try.ntmps8
  go_upto_region 2 with (fail)
  have ns := NS.start w #[.int .u64 gen, .int .u32 ep, .bool tu, .string nx, .int .i64 pl, .string sm, .int .i64 fr, .int .i64 mn, .string ch]
  generalize ((w.alloc (.cells #[.int .u64 gen, .int .u32 ep, .bool tu, .string nx, .int .i64 pl, .string sm, .int .i64 fr, .int .i64 mn, .string ch] 27)).alloc (.cells #[.int .u64 0, .int .u32 0, .bool false, .string ⟨#[]⟩, .int .i64 0, .string ⟨#[]⟩, .int .i64 0, .int .i64 0, .string ⟨#[]⟩] 27)).alloc (.cells #[.int .u64 gen, .int .u32 ep, .bool tu, .string nx, .int .i64 pl, .string sm, .int .i64 fr, .int .i64 mn, .string ch] 27) = W at ns ⊢
  replace ns := Lib.hid ns
  go_cut [5] from 7 (fun v wx => v = .pointer (some ⟨w.heap.size + 1 + 1, 0, none⟩) ∧ NS w #[.int .u64 gen, .int .u32 ep, .bool tu, .string nx, .int .i64 pl, .string sm, .int .i64 fr, .int .i64 mn, .string ch] #[.int .u64 gen, .int .u32 ep, .bool tu, .string nx, .int .i64 pl, .string sm, .int .i64 (f : Int), .int .i64 (m : Int), .string C] wx)
  case first =>
    have nd := ns.out.drew
    have a6 := nd.ac 6
    have a7 := nd.ac 7
    have a8 := nd.ac 8
    have f6 := ns.out.xf 6
    have f7 := ns.out.xf 7
    have f8 := ns.out.xf 8
    have x6 := ns.out.xc 6
    have x7 := ns.out.xc 7
    have x8 := ns.out.xc 8
    have b6 := ns.out.ac 6
    have b7 := ns.out.ac 7
    have b8 := ns.out.ac 8
    simp only [List.getElem?_toArray, List.getElem?_cons_zero, List.getElem?_cons_succ] at a6 a7 a8 x6 x7 x8 b6 b7 b8
    have hne : ¬ w.heap.size + 1 + 1 = w.heap.size := by omega
    replace nd := Lib.hid nd
    go_region_with (go_at_call 49; (with_reducible refine (cc _).mono ?_); rintro e w1 ⟨rfl, rfl⟩)
    all_goals
      go_wp2_with fail
      go_meet
      exact ⟨rfl, (((ns.out.put 6 _ _ rfl).put 7 _ _ rfl).put 8 _ _ rfl).drew⟩
  case rest =>
    obtain ⟨rfl, ns2⟩ := hcut
    clear ns
    generalize wc = W at ns2 ⊢
    have ns := Lib.hid ns2
    clear ns2
    go_upto_region 3 with (fail)
    replace ns := ns.out
    go_cut [5] from 19 (fun v wx => v = .pointer (some ⟨w.heap.size + 1 + 1, 0, none⟩) ∧ NS w #[.int .u64 gen, .int .u32 ep, .bool tu, .string nx, .int .i64 pl, .string sm, .int .i64 fr, .int .i64 mn, .string ch] #[.int .u64 gen, .int .u32 ep, .bool tu, .string nx, .int .i64 (p : Int), .string S, .int .i64 (f : Int), .int .i64 (m : Int), .string C] wx)
    case first =>
      have nd := ns.drew
      have a4 := nd.ac 4
      have a5 := nd.ac 5
      have f4 := ns.xf 4
      have f5 := ns.xf 5
      have x4 := ns.xc 4
      have x5 := ns.xc 5
      have b4 := ns.ac 4
      have b5 := ns.ac 5
      simp only [List.getElem?_toArray, List.getElem?_cons_zero, List.getElem?_cons_succ] at a4 a5 x4 x5 b4 b5
      have hne : ¬ w.heap.size + 1 + 1 = w.heap.size := by omega
      replace nd := Lib.hid nd
      replace ns := Lib.hid ns
      go_region_with (go_at_call 49; (with_reducible refine (cs _).mono ?_); rintro e w1 ⟨rfl, rfl⟩)
      all_goals
        go_wp2_with fail
        go_meet
        exact ⟨rfl, ((ns.out.put 4 _ _ rfl).put 5 _ _ rfl).drew⟩
    case rest =>
      obtain ⟨rfl, ns2⟩ := hcut
      clear ns
      generalize wc = W at ns2 ⊢
      have ns := ns2
      clear ns2
      go_upto_region 4 with (fail)
      go_cut [5] from 29 (fun v wx => v = .pointer (some ⟨w.heap.size + 1 + 1, 0, none⟩) ∧ ∃ N : ByteArray, N.size ≤ 140737488355328 ∧ NS w #[.int .u64 gen, .int .u32 ep, .bool tu, .string nx, .int .i64 pl, .string sm, .int .i64 fr, .int .i64 mn, .string ch] #[.int .u64 gen, .int .u32 ep, .bool tu, .string N, .int .i64 (p : Int), .string S, .int .i64 (f : Int), .int .i64 (m : Int), .string C] wx)
      case first =>
        have f3 := ns.xf 3
        have x3 := ns.xc 3
        have b3 := ns.ac 3
        simp only [List.getElem?_toArray, List.getElem?_cons_zero, List.getElem?_cons_succ] at x3 b3
        replace ns := Lib.hid ns
        by_cases h90 : nx.size ≤ 90
        · have g1 : (nx.size : Int) ≤ 90 := by omega
          have g2 : ¬ (90 : Int) < nx.size := by omega
          go_wp2_with fail
          go_meet
          exact ⟨rfl, _, by rw [ByteArray.size_extract]; omega, ns.out.put 3 _ _ rfl⟩
        · have g1 : ¬ (nx.size : Int) ≤ 90 := by omega
          have g2 : (90 : Int) < nx.size := by omega
          have g3 : (90 : Int) ≤ nx.size := by omega
          go_wp2_with fail
          go_meet
          exact ⟨rfl, _, by rw [ByteArray.size_extract]; omega, ns.out.put 3 _ _ rfl⟩
      case rest =>
        obtain ⟨rfl, N, hN, ns2⟩ := hcut
        clear ns
        generalize wc = W at ns2 ⊢
        have ns := ns2
        clear ns2
        go_upto_region 5 with (fail)
        obtain ⟨x, hx⟩ : ∃ x, (N.toList == (⟨#[]⟩ : ByteArray).toList) = x := ⟨_, rfl⟩
        obtain ⟨e1, e2, e3, e4⟩ := empty_forms N x hx
        have f2 := ns.xf 2
        have x2 := ns.xc 2
        have x3 := ns.xc 3
        simp only [List.getElem?_toArray, List.getElem?_cons_zero, List.getElem?_cons_succ] at x2 x3
        replace ns := Lib.hid ns
        go_upto_if 39 with fail
        replace ns := ns.out
        go_cut [5] from 37 (fun v wx => v = .pointer (some ⟨w.heap.size + 1 + 1, 0, none⟩) ∧ ∃ T : Bool, NS w #[.int .u64 gen, .int .u32 ep, .bool tu, .string nx, .int .i64 pl, .string sm, .int .i64 fr, .int .i64 mn, .string ch] #[.int .u64 gen, .int .u32 ep, .bool T, .string N, .int .i64 (p : Int), .string S, .int .i64 (f : Int), .int .i64 (m : Int), .string C] wx)
        case first =>
          replace ns := Lib.hid ns
          cases x
          · go_wp2_with fail
            go_meet
            exact ⟨rfl, _, ns.out.put 2 _ _ rfl⟩
          · go_wp2_with fail
            go_meet
            exact ⟨rfl, _, ns.out⟩
        case rest =>
          obtain ⟨rfl, T, ns2⟩ := hcut
          clear ns e1 e2 e3 e4 hx f2 x2 x3
          generalize wc = W at ns2 ⊢
          have ns := ns2
          clear ns2
          obtain ⟨r, hr, hr2⟩ : ∃ r : Nat, bits .and .i64 odd 7 = (r : Int) ∧ r < 8 := ⟨(odd % 8).toNat, by rw [and_7]; omega, by omega⟩
          have a2 := ns.ac 2
          have a5 := ns.ac 5
          have a6 := ns.ac 6
          have a8 := ns.ac 8
          have x0 := ns.xc 0
          have x1 := ns.xc 1
          have x2 := ns.xc 2
          have x3 := ns.xc 3
          have x4 := ns.xc 4
          have x5 := ns.xc 5
          have x6 := ns.xc 6
          have x7 := ns.xc 7
          have x8 := ns.xc 8
          have r0 := ns.rc 0
          have r1 := ns.rc 1
          have r2 := ns.rc 2
          have r3 := ns.rc 3
          have r4 := ns.rc 4
          have r5 := ns.rc 5
          have r6 := ns.rc 6
          have r7 := ns.rc 7
          have r8 := ns.rc 8
          simp only [List.getElem?_toArray, List.getElem?_cons_zero, List.getElem?_cons_succ] at a2 a5 a6 a8 x0 x1 x2 x3 x4 x5 x6 x7 x8 r0 r1 r2 r3 r4 r5 r6 r7 r8
          have f2 := ns.xf 2
          have f4 := ns.xf 4
          have f5 := ns.xf 5
          have f6 := ns.xf 6
          have f8 := ns.xf 8
          have p0 := ns.rf 0
          have p1 := ns.rf 1
          have p2 := ns.rf 2
          have p3 := ns.rf 3
          have p4 := ns.rf 4
          have p5 := ns.rf 5
          have p6 := ns.rf 6
          have p7 := ns.rf 7
          have p8 := ns.rf 8
          have hne : ¬ w.heap.size + 1 + 1 = w.heap.size := by omega
          have hne2 : ¬ w.heap.size + 1 + 1 = w.heap.size + 1 := by omega
          replace ns := Lib.hid ns
          have hp4 : (p : Int) < 4096 := by omega
          have hr3 : r = 0 ∨ r = 1 ∨ r = 2 ∨ r = 3 ∨ r = 4 ∨ r = 5 ∨ r = 6 ∨ r = 7 := by omega
          clear hr2
          rcases hr3 with rfl | rfl | rfl | rfl | rfl | rfl | rfl | rfl
          · go_wp2_with fail
            exact near_end ((ns.out.put 4 _ _ rfl).put 5 _ _ rfl) ⟨hN, Nat.zero_le _, hCz⟩ rfl rfl
          · go_wp2_with fail
            exact near_end (ns.out.put 6 _ _ rfl) ⟨hN, hSz, hCz⟩ rfl rfl
          · go_wp2_with fail
            exact near_end (ns.out.put 8 _ _ rfl) ⟨hN, hSz, hch⟩ rfl rfl
          · go_wp2_with fail
            exact near_end (ns.out.put 5 _ _ rfl) ⟨hN, hsm, hCz⟩ rfl rfl
          · go_wp2_with fail
            exact near_end (ns.out.put 2 _ _ rfl) ⟨hN, hSz, hCz⟩ rfl rfl
          · go_wp2_with fail
            exact near_end ns.out ⟨hN, hSz, hCz⟩ rfl rfl
          · go_wp2_with fail
            exact near_end ns.out ⟨hN, hSz, hCz⟩ rfl rfl
          · go_wp2_with fail
            exact near_end ns.out ⟨hN, hSz, hCz⟩ rfl rfl
end Go.Proofs.Ytdhboldmffiklab.anchor
