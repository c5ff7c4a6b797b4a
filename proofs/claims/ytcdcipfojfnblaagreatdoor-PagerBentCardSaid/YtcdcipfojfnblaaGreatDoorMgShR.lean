/- The document's own SHA-256 (package lodestoneref01): a word turned, bytes filled up. No condition. The document's own SHA-256 (package lodestoneref01): the words behind a block. No condition. The document's own SHA-256 (package lodestoneref01): the words behind a block, walked. No condition. The sum of three letters. No condition. The document's own SHA-256 (package lodestoneref01): the sum of bytes; it is the code's. No condition. The sum of any bytes is the document's. The table of salts is a premise. No other condition. -/
import Derived.Test.YtcdcipfojfnblaaGreatDoorMgSha
import Derived.Lib.LaidTab
section
namespace Go.Proofs.YtcdcipfojfnblaaGreatDoor.sha
open Go.RowKit
attribute [local go_sem ↓] Go.wp_at_zero Go.wp_at_succ
attribute [local go_sem] str_size str_append conv_one conv_one_drew
set_option linter.unusedVariables false
set_option maxRecDepth 100000

set_option maxHeartbeats 1000000 in
theorem rturn_any (x s : Nat) (hx : x < 4294967296) (hs : s = 2 ∨ s = 6 ∨ s = 7 ∨ s = 11 ∨ s = 13 ∨ s = 17 ∨ s = 18 ∨ s = 19 ∨ s = 22 ∨ s = 25) (w : World) :
    Calls Tryz.prog 73 #[.int .u32 (x : Int), .int .u64 (s : Int)] w fun e w' => e = .returned (.int .u32 ((rotr x s : Nat) : Int)) ∧ w' = w := by
  have hr := rotl_sum x (32 - s) hx (by omega)
  have hl := rotl_lt x (32 - s) hx (by omega)
  rcases hs with rfl | rfl | rfl | rfl | rfl | rfl | rfl | rfl | rfl | rfl
  all_goals replace hr := Lib.hid hr
  all_goals replace hl := Lib.hid hl
  all_goals go_enter Tryz.func73, Tryz.ntmps73
  all_goals go_wp2
  all_goals go_ret
  all_goals refine ⟨congrArg (fun x => Ending.returned (Value.int .u32 x)) ?_, rfl⟩
  all_goals have h1 := hr.out
  all_goals have h2 := hl.out
  all_goals unfold rotr
  all_goals omega

/-- so many bytes of a number, the highest first -/
def tlK (n : Nat) : Nat → List UInt8
  | 0 => []
  | k + 1 => UInt8.ofNat (n / 256 ^ k % 256) :: tlK n k
theorem tlK_8 (n : Nat) : tlK n 8 = be8 n := rfl
theorem tlK_len (n k : Nat) : (tlK n k).length = k := by
  induction k with
  | zero => rfl
  | succ k ih => simp [tlK, ih]
/-- how many noughts there are -/
def padZ (n : Nat) : Nat := (119 - n % 64) % 64
/-- bytes, filled up -/
def paddedL (l : List UInt8) : List UInt8 := l ++ [128] ++ List.replicate (padZ l.length) 0 ++ be8 (l.length * 8 % 18446744073709551616)
set_option maxRecDepth 100000 in
set_option maxHeartbeats 2000000 in
theorem padded_any (l : List UInt8) (hl : l.length ≤ 1000000000) (w : World) :
    Calls Tryz.prog 52 #[.string (str l)] w fun e w' => e = .returned (.string (str (paddedL l))) ∧ Below w.heap.size w w' := by
  obtain ⟨z, hz⟩ : ∃ z, z = padZ l.length := ⟨_, rfl⟩
  have hz64 : z < 64 := by rw [hz]; exact Nat.mod_lt _ (by decide)
  have hzmod : ∀ k, k ≤ z → ((l.length + 1 + k) % 64 = 56 ↔ k = z) := by
    intro k hk; rw [hz] at hk ⊢; unfold padZ at *; omega
  have hone : (⟨#[128]⟩ : ByteArray) = str [128] := rfl
  have hzero : (⟨#[0]⟩ : ByteArray) = str [0] := rfl
  obtain ⟨n, hn⟩ : ∃ n, n = l.length * 8 % 18446744073709551616 := ⟨_, rfl⟩
  have e8 : IntKind.u64.wrap (((l.length : Nat) : Int) * 8) = (n : Int) := by rw [IntKind.wrap_u64]; omega
  have e8a : IntKind.u64.wrap ((l.length : Nat) : Int) = (l.length : Int) := by rw [IntKind.wrap_u64]; omega
  have hroom : ¬ 9223372036854775807 < l.length + 1 := by omega
  have hfin : paddedL l = l ++ [128] ++ List.replicate z 0 ++ tlK n 8 := by rw [hz, hn]; rfl
  replace hl := Lib.hid hl; replace hz := Lib.hid hz; replace hn := Lib.hid hn; replace hz64 := Lib.hid hz64; replace hzmod := Lib.hid hzmod; replace hfin := Lib.hid hfin
  go_enter Tryz.func52, Tryz.ntmps52
  go_wp2
  go_loopg [3] z (fun gn s3 wr => ∃ k : Nat, s3 = .string (str (l ++ [128] ++ List.replicate k 0)) ∧ k + gn = z ∧ wr = w)
  case atStart => exact ⟨0, by simp, by omega, rfl⟩
  case round =>
    obtain ⟨k, rfl, hk, rfl⟩ := hrel
    have hmd := hzmod.out k (by omega)
    have hll : (l ++ [128] ++ List.replicate k (0 : UInt8)).length = l.length + 1 + k := by simp; omega
    by_cases h0 : gk = 0
    · obtain rfl : k = z := by omega
      have hmo2 : ((l.length : Int) + 1 + k) % 64 = 56 := by have := hmd.2 rfl; omega
      have hmo : ((l.length : Int) + 1 + k).tmod 64 = 56 := by rw [IntWalk.rem_in _ _ (by omega)]; exact hmo2
      obtain ⟨P, hP⟩ : ∃ P, P = l ++ [128] ++ List.replicate k (0 : UInt8) := ⟨_, rfl⟩
      have hf2 := hfin.out
      rw [← hP] at hll hf2 ⊢
      have hroom2 : ¬ 9223372036854775807 < l.length + 1 + k + 8 := by have := hl.out; have := hz64.out; omega
      replace hP := Lib.hid hP
      replace hf2 := Lib.hid hf2
      clear hmd hk h0
      go_wp2
      go_loopg [4, 5, 6] 8 (fun gn s4 s5 s6 w2 => ∃ i : Nat, s6 = .int .i64 (i : Int) ∧ i + gn = 8 ∧ s4 = .string (str (tlK n i)) ∧ s5 = .int .u64 ((n / 256 ^ i : Nat) : Int) ∧ Below wr.heap.size wr w2)
      case atStart => exact ⟨0, rfl, rfl, rfl, by simp, Below.refl _ _⟩
      case round =>
        obtain ⟨i, rfl, hi, rfl, rfl, hB⟩ := hrel
        have htl := tlK_len n i
        by_cases h0 : gk = 0
        · obtain rfl : i = 8 := by omega
          obtain ⟨T, hT⟩ : ∃ T, T = tlK n 8 := ⟨_, rfl⟩
          have hf3 := hf2.out
          rw [← hT] at htl hf3 ⊢
          clear hi h0 hT
          replace hf3 := Lib.hid hf3
          go_wp2
          go_ret
          exact ⟨by rw [hf3.out]; rfl, hB⟩
        · obtain ⟨K, rfl⟩ : ∃ K : Nat, gk = K + 1 := ⟨gk - 1, by omega⟩
          have i1 : (i : Int) < 8 := by omega
          have hroom3 : ¬ 9223372036854775807 < 1 + i := by omega
          obtain ⟨m, hm⟩ : ∃ m, m = n / 256 ^ i := ⟨_, rfl⟩
          obtain ⟨v, hv⟩ : ∃ v, v = m % 256 := ⟨_, rfl⟩
          have ev : (m : Int) % 256 = (v : Int) := by omega
          have ev2 : (m : Int).tmod 256 = (v : Int) := by rw [IntWalk.rem_in _ _ (by omega)]; exact ev
          have ev3 : IntKind.u8.wrap (v : Int) = (v : Int) := IntWalk.u8_in _ (by omega)
          have hm2 : n / 256 ^ (i + 1) = m / 256 := by rw [hm, Nat.div_div_eq_div_mul, ← Nat.pow_succ]
          have hnext : tlK n (i + 1) = UInt8.ofNat v :: tlK n i := by rw [hv, hm]; rfl
          have hml : m < 18446744073709551616 := by rw [hm]; refine Nat.lt_of_le_of_lt (Nat.div_le_self _ _) ?_; rw [hn.out]; exact Nat.mod_lt _ (by decide)
          replace hml := Lib.hid hml
          rw [← hm]
          have hi2 := Lib.hid hi
          replace hm2 := Lib.hid hm2
          replace hnext := Lib.hid hnext
          clear hi h0 hv hm
          go_wp2
          go_roundg K
          case measure => omega
          case rel => exact ⟨i + 1, by go_num, by have := hi2.out; omega, by rw [hnext.out] <;> first | rfl | simp, by rw [hm2.out]; exact congrArg (Value.int .u64) (by have := hml.out; rw [IntKind.wrap_u64]; omega), hB.alloc hB.size _⟩
    · obtain ⟨K, rfl⟩ : ∃ K : Nat, gk = K + 1 := ⟨gk - 1, by omega⟩
      have hmo2 : ¬ (((l.length : Int) + 1 + k) % 64 = 56) := by intro e; have := hmd.1 (by omega); omega
      have hmo : ¬ (((l.length : Int) + 1 + k).tmod 64 = 56) := by rw [IntWalk.rem_in _ _ (by omega)]; exact hmo2
      have hmo3 : ((((l.length : Int) + 1 + k).tmod 64) != 56) = true := by simpa using hmo
      obtain ⟨P, hP⟩ : ∃ P, P = l ++ [128] ++ List.replicate k (0 : UInt8) := ⟨_, rfl⟩
      have hnext : l ++ [128] ++ List.replicate (k + 1) (0 : UInt8) = P ++ [0] := by rw [hP, List.replicate_succ']; simp
      rw [← hP] at hll ⊢
      have hroom2 : ¬ 9223372036854775807 < l.length + 1 + k + 1 := by have := hl.out; have := hz64.out; omega
      have hk2 := Lib.hid hk
      replace hnext := Lib.hid hnext
      clear hP hmd hk h0
      go_wp2
      go_roundg K
      case measure => omega
      case rel => exact ⟨k + 1, by rw [hnext.out], by have := hk2.out; omega, rfl⟩
end Go.Proofs.YtcdcipfojfnblaaGreatDoor.sha
end
section
namespace Go.Proofs.YtcdcipfojfnblaaGreatDoor.sha
open Go.RowKit
attribute [local go_sem ↓] Go.wp_at_zero Go.wp_at_succ
set_option linter.unusedVariables false
set_option maxRecDepth 100000

theorem u32Info : (Tryz.prog.info? 42).map (fun i => (i.zero, i.size, i.bytes)) = some (some (.int .u32 0), 1, 4) := by kernel_rfl
/-- 'make([]uint32, 64)' -/
theorem run_make_64 (W : World) : (Instr.makeSlice 116 (.int .i64 64) (.int .i64 64)).run Tryz.prog W = .ok (.slice (some ⟨W.heap.size, 0, none⟩) 64 64) (W.alloc (.cells ((List.replicate 64 0).map word).toArray 42)) := by
  obtain ⟨i, hi, hz, hsz, hby⟩ := info_parts u32Info
  have h := run_make (P := Tryz.prog) W 116 42 i (.int .u32 0) Tryz.underlying116 hi hz .i64 .i64 64 64 (by omega) (by omega) (by rw [hby]; decide) (by decide)
  rw [hsz] at h
  have e : madeCells (Value.int .u32 0).cells 64 = ((List.replicate 64 0).map word).toArray := by kernel_rfl
  simpa [e] using h
theorem leftTurns (x s q : Nat) (hx : x < 4294967296) (hs : s = 2 ∨ s = 6 ∨ s = 7 ∨ s = 11 ∨ s = 13 ∨ s = 17 ∨ s = 18 ∨ s = 19 ∨ s = 22 ∨ s = 25) (hq : q = rotr x s) (w : World) :
    Calls Tryz.prog 73 #[.int .u32 (x : Int), .int .u64 (s : Int)] w fun e w' => e = .returned (.int .u32 (q : Int)) ∧ w' = w := by rw [hq]; exact rturn_any x s hx hs w
/-- what stands while words are made: the old ones, the block's, the salts -/
def RMix (w wr : World) (G : Nat) (hs ws ss : List Nat) : Prop :=
  Words wr w.heap.size 115 hs ∧ (∃ z, wr.heap[w.heap.size + 1]? = some (.cells z 115 (0, 0)) ∧ z.size = 8) ∧ Words wr (w.heap.size + 1 + 1) 42 ws ∧ Words wr G 42 ss ∧ G < w.heap.size ∧ Below w.heap.size w wr
theorem RMix.drew {w wr : World} {G : Nat} {hs ws ss : List Nat} (h : RMix w wr G hs ws ss) : RMix w wr.drew G hs ws ss := ⟨h.1, h.2.1, h.2.2.1, h.2.2.2.1, h.2.2.2.2.1, h.2.2.2.2.2.drew⟩
theorem RMix.drewN {w wr : World} {G : Nat} {hs ws ss : List Nat} (h : RMix w wr G hs ws ss) (n : Nat) : RMix w (wr.drewN n) G hs ws ss := ⟨h.1, h.2.1, h.2.2.1, h.2.2.2.1, h.2.2.2.2.1, belowDrewN h.2.2.2.2.2 n⟩
theorem RMix.old {w wr : World} {G : Nat} {hs ws ss : List Nat} (h : RMix w wr G hs ws ss) : Words wr w.heap.size 115 hs := h.1
theorem RMix.ws {w wr : World} {G : Nat} {hs ws ss : List Nat} (h : RMix w wr G hs ws ss) : Words wr (w.heap.size + 1 + 1) 42 ws := h.2.2.1
theorem RMix.ss {w wr : World} {G : Nat} {hs ws ss : List Nat} (h : RMix w wr G hs ws ss) : Words wr G 42 ss := h.2.2.2.1
theorem RMix.res {w wr : World} {G : Nat} {hs ws ss : List Nat} (h : RMix w wr G hs ws ss) : ∃ z, wr.heap[w.heap.size + 1]? = some (.cells z 115 (0, 0)) ∧ z.size = 8 := h.2.1
theorem RMix.low {w wr : World} {G : Nat} {hs ws ss : List Nat} (h : RMix w wr G hs ws ss) : Below w.heap.size w wr := h.2.2.2.2.2
theorem RMix.put {w wr : World} {G : Nat} {hs ws ss : List Nat} (h : RMix w wr G hs ws ss) (i n : Nat) : RMix w (wr.setCell ⟨w.heap.size + 1 + 1, i, none⟩ (.int .u32 (n : Int))) G hs (ws.set i n) ss := by
  have k := (Keeps.refl [w.heap.size + 1 + 1] wr).setCell (p := ⟨w.heap.size + 1 + 1, i, none⟩) (Or.inl (by simp)) (.int .u32 (n : Int))
  exact ⟨h.1.keep k (by simp; omega), h.2.1.imp fun z hz => ⟨(k.block _ (block_lt hz.1) (by simp)).trans hz.1, hz.2⟩, h.2.2.1.put i n, h.2.2.2.1.keep k (by have := h.2.2.2.2.1; simp; omega), h.2.2.2.2.1, h.2.2.2.2.2.setCell (p := ⟨w.heap.size + 1 + 1, i, none⟩) (by simp; omega) _⟩
theorem rmix_start {w : World} {cs zs : Array Value} {hs ss : List Nat} {G : Nat} (hcs : cs = (hs.map word).toArray) (hz : zs.size = 8) (hG : Words w G 42 ss) :
    RMix w (((w.alloc (.cells cs 115)).alloc (.cells zs 115)).alloc (.cells ((List.replicate 64 0).map word).toArray 42)) G hs (List.replicate 64 0) ss := by
  have hlt := block_lt hG
  have bel : Below w.heap.size w (((w.alloc (.cells cs 115)).alloc (.cells zs 115)).alloc (.cells ((List.replicate 64 0).map word).toArray 42)) := (((Below.refl _ w).alloc (Nat.le_refl _) _).alloc (by simp) _).alloc (by simp; omega) _
  refine ⟨?_, ⟨zs, ?_, hz⟩, ?_, hG.below bel, hlt, bel⟩
  · unfold Words; rw [← hcs, Below.heap_alloc _ _ _ (by simp; omega)]; exact boxed2 _ _ _ _
  · rw [Below.heap_alloc _ _ _ (by simp)]; exact boxed2b _ _ _ _
  · have := heap_alloc_new ((w.alloc (.cells cs 115)).alloc (.cells zs 115)) (.cells ((List.replicate 64 0).map word).toArray 42)
    simpa [Words] using this
end Go.Proofs.YtcdcipfojfnblaaGreatDoor.sha
end
section
namespace Go.Proofs.YtcdcipfojfnblaaGreatDoor.sha
open Go.RowKit
attribute [local go_sem ↓] Go.wp_at_zero Go.wp_at_succ
set_option linter.unusedVariables false
set_option maxRecDepth 100000
set_option maxRecDepth 100000 in
set_option maxHeartbeats 16000000 in
theorem rwords_any (ss hs : List Nat) (s : ByteArray) (h8 : hs.length = 8) (hsm : Small hs) (hsz : s.size = 64) (h64 : ss.length = 64) (hss : Small ss) (G : Nat) (w : World) (hG : Words w G 42 ss) :
    Calls Tryz.prog 54 #[.agg (hs.map word).toArray, .string s, .slice (some ⟨G, 0, none⟩) 64 64] w fun e w' => e = .returned (.agg ((mixedL ss hs s).map word).toArray) ∧ Below w.heap.size w w' := by
  have hml : mixedL ss hs s = addV hs (runV (sprL s 64) ss (ofL hs) 64) := rfl
  obtain ⟨cs, hcs⟩ : ∃ cs, cs = (hs.map word).toArray := ⟨_, rfl⟩
  rw [← hcs]
  have hmk := run_make_64
  obtain ⟨zw, hzw⟩ : ∃ zw, zw = ((List.replicate 64 0).map word).toArray := ⟨_, rfl⟩
  rw [← hzw] at hmk
  have hst := fun (zs : Array Value) (hz : zs.size = 8) => rmix_start (w := w) (cs := cs) (zs := zs) (hs := hs) (ss := ss) (G := G) hcs hz hG
  rw [← hzw] at hst
  replace hst := Lib.hid hst
  replace hzw := Lib.hid hzw
  replace hcs := Lib.hid hcs
  replace hG := Lib.hid hG
  replace h8 := Lib.hid h8
  replace hsm := Lib.hid hsm
  replace hss := Lib.hid hss
  replace hml := Lib.hid hml
  replace hsz := Lib.hid hsz
  replace h64 := Lib.hid h64
  go_enter Tryz.func54, Tryz.ntmps54
  go_wp2
  go_loopg [8] 64 (fun gn s8 wr => ∃ i : Nat, s8 = .int .i64 (i : Int) ∧ i + gn = 64 ∧ RMix w wr G hs (sprL s i) ss)
  case atStart => exact ⟨0, rfl, rfl, hst.out _ rfl⟩
  case round =>
    clear hst hG
    obtain ⟨i, rfl, hi, hM⟩ := hrel
    by_cases h0 : gk = 0
    · obtain rfl : i = 64 := by omega
      obtain ⟨ws, hws⟩ : ∃ ws, ws = sprL s 64 := ⟨_, rfl⟩
      have hwl : ws.length = 64 := by rw [hws]; exact sprL_len s 64
      have hml2 := hml.out
      rw [← hws] at hM hml2
      clear hws hi h0
      have hok := fun k => runV_ok ws ss (ofL_ok hsm.out) k
      obtain ⟨v0, hv0⟩ : ∃ v, v = ofL hs := ⟨_, rfl⟩
      rw [← hv0] at hok hml2
      replace hwl := Lib.hid hwl
      replace hok := Lib.hid hok
      replace hml2 := Lib.hid hml2
      have va : v0.a = hs.getD 0 0 := by rw [hv0]; rfl
      have c0 := hM.old.cell (i := 0) (by rw [h8.out]; decide)
      rw [← va] at c0
      have vb : v0.b = hs.getD 1 0 := by rw [hv0]; rfl
      have c1 := hM.old.cell (i := 1) (by rw [h8.out]; decide)
      rw [← vb] at c1
      have vc : v0.c = hs.getD 2 0 := by rw [hv0]; rfl
      have c2 := hM.old.cell (i := 2) (by rw [h8.out]; decide)
      rw [← vc] at c2
      have vd : v0.d = hs.getD 3 0 := by rw [hv0]; rfl
      have c3 := hM.old.cell (i := 3) (by rw [h8.out]; decide)
      rw [← vd] at c3
      have ve : v0.e = hs.getD 4 0 := by rw [hv0]; rfl
      have c4 := hM.old.cell (i := 4) (by rw [h8.out]; decide)
      rw [← ve] at c4
      have vf : v0.f = hs.getD 5 0 := by rw [hv0]; rfl
      have c5 := hM.old.cell (i := 5) (by rw [h8.out]; decide)
      rw [← vf] at c5
      have vg : v0.g = hs.getD 6 0 := by rw [hv0]; rfl
      have c6 := hM.old.cell (i := 6) (by rw [h8.out]; decide)
      rw [← vg] at c6
      have vh : v0.h = hs.getD 7 0 := by rw [hv0]; rfl
      have c7 := hM.old.cell (i := 7) (by rw [h8.out]; decide)
      rw [← vh] at c7
      clear va vb vc vd ve vf vg vh
      replace hM := Lib.hid hM
      replace hv0 := Lib.hid hv0
      go_upto_region 9 with fail
      go_cut [11, 12, 13, 14, 15, 16, 17, 18] from 103 (fun a b c d e f g h wx => a = .int .u32 (v0.a : Int) ∧ b = .int .u32 (v0.b : Int) ∧ c = .int .u32 (v0.c : Int) ∧ d = .int .u32 (v0.d : Int) ∧ e = .int .u32 (v0.e : Int) ∧ f = .int .u32 (v0.f : Int) ∧ g = .int .u32 (v0.g : Int) ∧ h = .int .u32 (v0.h : Int) ∧ RMix w wx G hs ws ss)
      case first =>
        go_quiet (fail)
        all_goals go_wp2_with fail
        all_goals try go_meet
        all_goals exact ⟨rfl, rfl, rfl, rfl, rfl, rfl, rfl, rfl, hM.out.drewN _⟩
      case rest =>
      clear hM c0 c1 c2 c3 c4 c5 c6 c7
      obtain ⟨rfl, rfl, rfl, rfl, rfl, rfl, rfl, rfl, hM⟩ := hcut
      replace hM := Lib.hid hM
      go_upto_region 11 with fail
      go_loopg [11, 12, 13, 14, 15, 16, 17, 18, 19] 64 (fun gn s11 s12 s13 s14 s15 s16 s17 s18 s19 wr => ∃ i : Nat, s19 = .int .i64 (i : Int) ∧ i + gn = 64 ∧ s11 = .int .u32 ((runV ws ss v0 i).a : Int) ∧ s12 = .int .u32 ((runV ws ss v0 i).b : Int) ∧ s13 = .int .u32 ((runV ws ss v0 i).c : Int) ∧ s14 = .int .u32 ((runV ws ss v0 i).d : Int) ∧ s15 = .int .u32 ((runV ws ss v0 i).e : Int) ∧ s16 = .int .u32 ((runV ws ss v0 i).f : Int) ∧ s17 = .int .u32 ((runV ws ss v0 i).g : Int) ∧ s18 = .int .u32 ((runV ws ss v0 i).h : Int) ∧ RMix w wr G hs ws ss)
      case atStart => exact ⟨0, rfl, rfl, rfl, rfl, rfl, rfl, rfl, rfl, rfl, rfl, hM.out⟩
      case round =>
        clear hM
        obtain ⟨i, rfl, hi, rfl, rfl, rfl, rfl, rfl, rfl, rfl, rfl, hM⟩ := hrel
        have hv := hok.out i
        obtain ⟨v, hve⟩ : ∃ v, v = runV ws ss v0 i := ⟨_, rfl⟩
        rw [← hve] at hv ⊢
        obtain ⟨a, b, c, d, e, f, g, h⟩ := v
        obtain ⟨ha, hb, hc, hd, he, hf, hg, hh⟩ := hv
        dsimp only at ha hb hc hd he hf hg hh ⊢
        by_cases h0 : gk = 0
        · obtain rfl : i = 64 := by omega
          obtain ⟨y0, hy0⟩ : ∃ y, y = hs.getD 0 0 := ⟨_, rfl⟩
          have c0 := hM.old.cell (i := 0) (by rw [h8.out]; decide)
          rw [← hy0] at c0
          obtain ⟨x0, hx0⟩ : ∃ x, x = add32 y0 a := ⟨_, rfl⟩
          have e0 : ((y0 : Int) + a) % 4294967296 = (x0 : Int) := by rw [hx0]; simp [add32]
          obtain ⟨y1, hy1⟩ : ∃ y, y = hs.getD 1 0 := ⟨_, rfl⟩
          have c1 := hM.old.cell (i := 1) (by rw [h8.out]; decide)
          rw [← hy1] at c1
          obtain ⟨x1, hx1⟩ : ∃ x, x = add32 y1 b := ⟨_, rfl⟩
          have e1 : ((y1 : Int) + b) % 4294967296 = (x1 : Int) := by rw [hx1]; simp [add32]
          obtain ⟨y2, hy2⟩ : ∃ y, y = hs.getD 2 0 := ⟨_, rfl⟩
          have c2 := hM.old.cell (i := 2) (by rw [h8.out]; decide)
          rw [← hy2] at c2
          obtain ⟨x2, hx2⟩ : ∃ x, x = add32 y2 c := ⟨_, rfl⟩
          have e2 : ((y2 : Int) + c) % 4294967296 = (x2 : Int) := by rw [hx2]; simp [add32]
          obtain ⟨y3, hy3⟩ : ∃ y, y = hs.getD 3 0 := ⟨_, rfl⟩
          have c3 := hM.old.cell (i := 3) (by rw [h8.out]; decide)
          rw [← hy3] at c3
          obtain ⟨x3, hx3⟩ : ∃ x, x = add32 y3 d := ⟨_, rfl⟩
          have e3 : ((y3 : Int) + d) % 4294967296 = (x3 : Int) := by rw [hx3]; simp [add32]
          obtain ⟨y4, hy4⟩ : ∃ y, y = hs.getD 4 0 := ⟨_, rfl⟩
          have c4 := hM.old.cell (i := 4) (by rw [h8.out]; decide)
          rw [← hy4] at c4
          obtain ⟨x4, hx4⟩ : ∃ x, x = add32 y4 e := ⟨_, rfl⟩
          have e4 : ((y4 : Int) + e) % 4294967296 = (x4 : Int) := by rw [hx4]; simp [add32]
          obtain ⟨y5, hy5⟩ : ∃ y, y = hs.getD 5 0 := ⟨_, rfl⟩
          have c5 := hM.old.cell (i := 5) (by rw [h8.out]; decide)
          rw [← hy5] at c5
          obtain ⟨x5, hx5⟩ : ∃ x, x = add32 y5 f := ⟨_, rfl⟩
          have e5 : ((y5 : Int) + f) % 4294967296 = (x5 : Int) := by rw [hx5]; simp [add32]
          obtain ⟨y6, hy6⟩ : ∃ y, y = hs.getD 6 0 := ⟨_, rfl⟩
          have c6 := hM.old.cell (i := 6) (by rw [h8.out]; decide)
          rw [← hy6] at c6
          obtain ⟨x6, hx6⟩ : ∃ x, x = add32 y6 g := ⟨_, rfl⟩
          have e6 : ((y6 : Int) + g) % 4294967296 = (x6 : Int) := by rw [hx6]; simp [add32]
          obtain ⟨y7, hy7⟩ : ∃ y, y = hs.getD 7 0 := ⟨_, rfl⟩
          have c7 := hM.old.cell (i := 7) (by rw [h8.out]; decide)
          rw [← hy7] at c7
          obtain ⟨x7, hx7⟩ : ∃ x, x = add32 y7 h := ⟨_, rfl⟩
          have e7 : ((y7 : Int) + h) % 4294967296 = (x7 : Int) := by rw [hx7]; simp [add32]
          have hfin : mixedL ss hs s = [x0, x1, x2, x3, x4, x5, x6, x7] := by
            rw [hml2.out, ← hve, hx0, hx1, hx2, hx3, hx4, hx5, hx6, hx7, hy0, hy1, hy2, hy3, hy4, hy5, hy6, hy7]; rfl
          replace hfin := Lib.hid hfin
          replace hM := Lib.hid hM
          clear hve hx0 hx1 hx2 hx3 hx4 hx5 hx6 hx7 hy0 hy1 hy2 hy3 hy4 hy5 hy6 hy7 ha hb hc hd he hf hg hh hi h0
          go_wp2_with (refine wpList_store_words eight8 rfl (.tmp 6) (.tmp 216) rfl (w.heap.size + 1) [x0, x1, x2, x3, x4, x5, x6, x7] rfl rfl rfl hM.out.res ?_; intro w5 W5' K5; replace W5' := Lib.hid W5'; replace K5 := Lib.hid K5)
          exact bodyPost_ret (v := .agg (([x0, x1, x2, x3, x4, x5, x6, x7]).map word).toArray) (results_cell_row rfl _ _ (w.heap.size + 1) 115 _ (0, 0) _ rfl W5'.out Tryz.underlying115 rfl eight8) rfl ⟨by rw [hfin.out], hM.out.low.trans (K5.out.below hM.out.low.size (by simp))⟩
        · obtain ⟨K, rfl⟩ : ∃ K : Nat, gk = K + 1 := ⟨gk - 1, by omega⟩
          have i1 : (i : Int) < 64 := by omega
          have i0 : (0 : Int) ≤ (i : Int) := by omega
          have cw := hM.ws.cell (i := i) (by rw [hwl.out]; omega)
          have cs2 := hM.ss.cell (i := i) (by rw [h64.out]; omega)
          obtain ⟨x, hx⟩ : ∃ x, x = ws.getD i 0 := ⟨_, rfl⟩
          obtain ⟨sv, hsv⟩ : ∃ x, x = ss.getD i 0 := ⟨_, rfl⟩
          rw [← hx] at cw
          rw [← hsv] at cs2
          have hV0 : runV ws ss v0 (i + 1) = stepV x sv ⟨a, b, c, d, e, f, g, h⟩ := by
            show stepV (ws.getD i 0) (ss.getD i 0) (runV ws ss v0 i) = _
            rw [← hve, ← hx, ← hsv]
          replace hM := Lib.hid hM
          have hi2 := Lib.hid hi
          replace hV0 := Lib.hid hV0
          clear hi h0 hve hx hsv
          go_upto_region 13 with fail
          go_cut [20] from 119 to 183 (fun p wx => p = .int .u32 (tOf x sv ⟨a, b, c, d, e, f, g, h⟩ : Int) ∧ RMix w wx G hs ws ss)
          case first =>
            obtain ⟨r1, hr1⟩ : ∃ r, r = rotr e 6 := ⟨_, rfl⟩
            obtain ⟨r2, hr2⟩ : ∃ r, r = rotr e 11 := ⟨_, rfl⟩
            obtain ⟨r3, hr3⟩ : ∃ r, r = r1 ^^^ r2 := ⟨_, rfl⟩
            obtain ⟨r4, hr4⟩ : ∃ r, r = rotr e 25 := ⟨_, rfl⟩
            obtain ⟨S1, hS1⟩ : ∃ r, r = sig1 e := ⟨_, rfl⟩
            have t1 : ∀ w', Calls Tryz.prog 73 #[.int .u32 (e : Int), .int .u64 6] w' fun e w2 => e = .returned (.int .u32 (r1 : Int)) ∧ w2 = w' := fun w' => leftTurns e 6 r1 he (by omega) hr1 w'
            have t2 : ∀ w', Calls Tryz.prog 73 #[.int .u32 (e : Int), .int .u64 11] w' fun e w2 => e = .returned (.int .u32 (r2 : Int)) ∧ w2 = w' := fun w' => leftTurns e 11 r2 he (by omega) hr2 w'
            have t3 : ∀ w', Calls Tryz.prog 73 #[.int .u32 (e : Int), .int .u64 25] w' fun e w2 => e = .returned (.int .u32 (r4 : Int)) ∧ w2 = w' := fun w' => leftTurns e 25 r4 he (by omega) hr4 w'
            have b1 : bits .xor .u32 (r1 : Int) (r2 : Int) = (r3 : Int) := by rw [u32_xor_nat _ _ (by rw [hr1]; exact rotr_lt _ _ he) (by rw [hr2]; exact rotr_lt _ _ he), hr3]
            have b2 : bits .xor .u32 (r3 : Int) (r4 : Int) = (S1 : Int) := by
              rw [u32_xor_nat _ _ (by rw [hr3, hr1, hr2]; exact xor_lt (rotr_lt _ _ he) (rotr_lt _ _ he)) (by rw [hr4]; exact rotr_lt _ _ he), hS1, hr4, hr3, hr1, hr2]; rfl
            obtain ⟨p1, hp1⟩ : ∃ p, p = e &&& f := ⟨_, rfl⟩
            obtain ⟨ne, hne⟩ : ∃ p, p = 4294967295 - e := ⟨_, rfl⟩
            obtain ⟨p2, hp2⟩ : ∃ p, p = ne &&& g := ⟨_, rfl⟩
            obtain ⟨C, hC⟩ : ∃ p, p = cho e f g := ⟨_, rfl⟩
            have q1 : bits .and .u32 (e : Int) (f : Int) = (p1 : Int) := by rw [u32_and_nat _ _ he hf, hp1]
            have q2 : (4294967295 - (e : Int)) % 4294967296 = (ne : Int) := by omega
            have q2w : IntKind.u32.wrap (4294967295 - (e : Int)) = (ne : Int) := by rw [IntKind.wrap_u32]; omega
            have q3 : bits .and .u32 (ne : Int) (g : Int) = (p2 : Int) := by rw [u32_and_nat _ _ (by omega) hg, hp2]
            have q4 : bits .xor .u32 (p1 : Int) (p2 : Int) = (C : Int) := by
              rw [u32_xor_nat _ _ (by rw [hp1]; exact and_lt he) (by rw [hp2]; exact and_lt (by omega)), hC, hp1, hp2, hne]; rfl
            have hfin : ((h : Int) + S1 + C + sv + x) % 4294967296 = ((tOf x sv ⟨a, b, c, d, e, f, g, h⟩ : Nat) : Int) := by
              rw [hS1, hC]; unfold tOf add32; dsimp only; omega
            clear hr1 hr2 hr3 hr4 hS1 hp1 hne hp2 hC ha hb hc hd he hf hg hh
            replace t1 := Lib.hid t1; replace t2 := Lib.hid t2; replace t3 := Lib.hid t3
            refine wp_region_still_lit (by kernel_rfl) (by kernel_rfl) ?_
            change wpStill _ _ wr.drew _ _ _
            repeat still_step
            still_call (t1.out _)
            repeat still_step
            still_call (t2.out _)
            repeat still_step
            still_call (t3.out _)
            repeat still_step
            refine wpStill_nil ?_
            go_wp2_with fail
            go_meet
            exact ⟨congrArg (Value.int .u32) (by simp only [IntKind.wrap_u32]; omega), hM.out.drew⟩
          case rest =>
          clear hM cw cs2
          obtain ⟨rfl, hM⟩ := hcut
          replace hM := Lib.hid hM
          obtain ⟨t, ht⟩ : ∃ t, t = tOf x sv ⟨a, b, c, d, e, f, g, h⟩ := ⟨_, rfl⟩
          rw [← ht]
          obtain ⟨r1, hr1⟩ : ∃ r, r = rotr a 2 := ⟨_, rfl⟩
          obtain ⟨r2, hr2⟩ : ∃ r, r = rotr a 13 := ⟨_, rfl⟩
          obtain ⟨r3, hr3⟩ : ∃ r, r = r1 ^^^ r2 := ⟨_, rfl⟩
          obtain ⟨r4, hr4⟩ : ∃ r, r = rotr a 22 := ⟨_, rfl⟩
          obtain ⟨S0, hS0⟩ : ∃ r, r = sig0 a := ⟨_, rfl⟩
          have t1 : ∀ w', Calls Tryz.prog 73 #[.int .u32 (a : Int), .int .u64 2] w' fun e w2 => e = .returned (.int .u32 (r1 : Int)) ∧ w2 = w' := fun w' => leftTurns a 2 r1 ha (by omega) hr1 w'
          have t2 : ∀ w', Calls Tryz.prog 73 #[.int .u32 (a : Int), .int .u64 13] w' fun e w2 => e = .returned (.int .u32 (r2 : Int)) ∧ w2 = w' := fun w' => leftTurns a 13 r2 ha (by omega) hr2 w'
          have t3 : ∀ w', Calls Tryz.prog 73 #[.int .u32 (a : Int), .int .u64 22] w' fun e w2 => e = .returned (.int .u32 (r4 : Int)) ∧ w2 = w' := fun w' => leftTurns a 22 r4 ha (by omega) hr4 w'
          have b1 : bits .xor .u32 (r1 : Int) (r2 : Int) = (r3 : Int) := by rw [u32_xor_nat _ _ (by rw [hr1]; exact rotr_lt _ _ ha) (by rw [hr2]; exact rotr_lt _ _ ha), hr3]
          have b2 : bits .xor .u32 (r3 : Int) (r4 : Int) = (S0 : Int) := by
            rw [u32_xor_nat _ _ (by rw [hr3, hr1, hr2]; exact xor_lt (rotr_lt _ _ ha) (rotr_lt _ _ ha)) (by rw [hr4]; exact rotr_lt _ _ ha), hS0, hr4, hr3, hr1, hr2]; rfl
          obtain ⟨p1, hp1⟩ : ∃ p, p = a &&& b := ⟨_, rfl⟩
          obtain ⟨p2, hp2⟩ : ∃ p, p = a &&& c := ⟨_, rfl⟩
          obtain ⟨p3, hp3⟩ : ∃ p, p = p1 ^^^ p2 := ⟨_, rfl⟩
          obtain ⟨p4, hp4⟩ : ∃ p, p = b &&& c := ⟨_, rfl⟩
          obtain ⟨mj, hmj⟩ : ∃ p, p = maj a b c := ⟨_, rfl⟩
          have q1 : bits .and .u32 (a : Int) (b : Int) = (p1 : Int) := by rw [u32_and_nat _ _ ha hb, hp1]
          have q2 : bits .and .u32 (a : Int) (c : Int) = (p2 : Int) := by rw [u32_and_nat _ _ ha hc, hp2]
          have q3 : bits .xor .u32 (p1 : Int) (p2 : Int) = (p3 : Int) := by rw [u32_xor_nat _ _ (by rw [hp1]; exact and_lt ha) (by rw [hp2]; exact and_lt ha), hp3]
          have q4 : bits .and .u32 (b : Int) (c : Int) = (p4 : Int) := by rw [u32_and_nat _ _ hb hc, hp4]
          have q5 : bits .xor .u32 (p3 : Int) (p4 : Int) = (mj : Int) := by
            rw [u32_xor_nat _ _ (by rw [hp3, hp1, hp2]; exact xor_lt (and_lt ha) (and_lt ha)) (by rw [hp4]; exact and_lt hb), hmj, hp4, hp3, hp2, hp1]; rfl
          obtain ⟨u, hu⟩ : ∃ u, u = uOf ⟨a, b, c, d, e, f, g, h⟩ := ⟨_, rfl⟩
          have q6 : ((S0 : Int) + mj) % 4294967296 = (u : Int) := by rw [hu, hS0, hmj]; unfold uOf add32; dsimp only; omega
          obtain ⟨n1, hn1⟩ : ∃ n, n = add32 t u := ⟨_, rfl⟩
          obtain ⟨n2, hn2⟩ : ∃ n, n = add32 d t := ⟨_, rfl⟩
          have q7 : ((t : Int) + u) % 4294967296 = (n1 : Int) := by rw [hn1]; unfold add32; omega
          have q8 : ((d : Int) + t) % 4294967296 = (n2 : Int) := by rw [hn2]; unfold add32; omega
          have hV : runV ws ss v0 (i + 1) = ⟨n1, a, b, c, n2, e, f, g⟩ := by rw [hV0.out, hn1, hn2, hu, ht]; rfl
          replace hV := Lib.hid hV
          clear hr1 hr2 hr3 hr4 hS0 hp1 hp2 hp3 hp4 hmj hu hn1 hn2 ht
          replace t1 := Lib.hid t1; replace t2 := Lib.hid t2; replace t3 := Lib.hid t3
          clear ha hb hc hd he hf hg hh
          go_wp2_with (first | (go_at_call 73; (with_reducible refine (t1.out _).mono ?_); rintro e w1 ⟨rfl, rfl⟩) | (go_at_call 73; (with_reducible refine (t2.out _).mono ?_); rintro e w1 ⟨rfl, rfl⟩) | (go_at_call 73; (with_reducible refine (t3.out _).mono ?_); rintro e w1 ⟨rfl, rfl⟩))
          go_roundg K
          case measure => omega
          case rel =>
            refine ⟨i + 1, by go_num, by have := hi2.out; omega, ?_⟩
            rw [hV.out]
            exact ⟨by first | rfl | rw [q7], rfl, rfl, rfl, by first | rfl | rw [q8], rfl, rfl, rfl, hM.out⟩
    · obtain ⟨K, rfl⟩ : ∃ K : Nat, gk = K + 1 := ⟨gk - 1, by omega⟩
      have i0 : (0 : Int) ≤ (i : Int) := by omega
      have i64 : (i : Int) < 64 := by omega
      by_cases h16 : i < 16
      · have i1 : (i : Int) < 16 := by omega
        obtain ⟨m, hm⟩ : ∃ m : Nat, m = 4 * i := ⟨_, rfl⟩
        have hm4 : 4 * (i : Int) = (m : Int) := by omega
        have z0 : (0 : Int) ≤ (m : Int) := by omega
        have z1 : (0 : Int) ≤ (m : Int) + 1 := by omega
        have z2 : (0 : Int) ≤ (m : Int) + 2 := by omega
        have z3 : (0 : Int) ≤ (m : Int) + 3 := by omega
        have hs2 := hsz.out
        have l0 : (m : Int) < s.size := by omega
        have l1 : (m : Int) + 1 < s.size := by omega
        have l2 : (m : Int) + 2 < s.size := by omega
        have l3 : (m : Int) + 3 < s.size := by omega
        have v0 : IntKind.i64.wrap (m : Int) = (m : Int) := by rw [IntKind.wrap_i64]; omega
        have v1 : IntKind.i64.wrap ((m : Int) + 1) = (m : Int) + 1 := by rw [IntKind.wrap_i64]; omega
        have v2 : IntKind.i64.wrap ((m : Int) + 2) = (m : Int) + 2 := by rw [IntKind.wrap_i64]; omega
        have v3 : IntKind.i64.wrap ((m : Int) + 3) = (m : Int) + 3 := by rw [IntKind.wrap_i64]; omega
        have g0 : ∀ h, ((s[m]'h).toNat : Int) = ((byteAt s m : Nat) : Int) := fun h => by rw [byteAt_eq s m h]
        have g1 : ∀ h, ((s[m + 1]'h).toNat : Int) = ((byteAt s (m + 1) : Nat) : Int) := fun h => by rw [byteAt_eq s (m + 1) h]
        have g2 : ∀ h, ((s[m + 2]'h).toNat : Int) = ((byteAt s (m + 2) : Nat) : Int) := fun h => by rw [byteAt_eq s (m + 2) h]
        have g3 : ∀ h, ((s[m + 3]'h).toNat : Int) = ((byteAt s (m + 3) : Nat) : Int) := fun h => by rw [byteAt_eq s (m + 3) h]
        obtain ⟨b0, hb0⟩ : ∃ b, b = byteAt s m := ⟨_, rfl⟩
        obtain ⟨b1, hb1⟩ : ∃ b, b = byteAt s (m + 1) := ⟨_, rfl⟩
        obtain ⟨b2, hb2⟩ : ∃ b, b = byteAt s (m + 2) := ⟨_, rfl⟩
        obtain ⟨b3, hb3⟩ : ∃ b, b = byteAt s (m + 3) := ⟨_, rfl⟩
        have q0 := byteAt_lt s m
        have q1 := byteAt_lt s (m + 1)
        have q2 := byteAt_lt s (m + 2)
        have q3 := byteAt_lt s (m + 3)
        rw [← hb0] at g0 q0; rw [← hb1] at g1 q1; rw [← hb2] at g2 q2; rw [← hb3] at g3 q3
        obtain ⟨q, hq⟩ : ∃ q, q = b0 * 16777216 + b1 * 65536 + b2 * 256 + b3 := ⟨_, rfl⟩
        have hqw : sprL s (i + 1) = (sprL s i).set i q := by
          show (sprL s i).set i (if i < 16 then beWord s (4 * i) else nextW (sprL s i) i) = _
          rw [if_pos (by omega), beWord, ← hm, ← hb0, ← hb1, ← hb2, ← hb3, hq]
        have c1 := hM.drew.ws.cell (i := i) (by rw [sprL_len]; omega)
        have f1 := hM.drew.ws.free i
        have hP := hM.drew.put i q
        rw [← hqw] at hP
        have hi2 : i + (K + 1) = 64 := hi
        replace hi2 := Lib.hid hi2
        replace hP := Lib.hid hP
        replace hM := Lib.hid hM
        replace hq := Lib.hid hq
        have q0' := Lib.hid q0; have q1' := Lib.hid q1; have q2' := Lib.hid q2; have q3' := Lib.hid q3
        clear hb0 hb1 hb2 hb3 q0 q1 q2 q3 hqw hs2 hi h0 h16
        replace hm := Lib.hid hm
        go_upto_region 6 with fail
        refine wp_region_still_tail 32 (by kernel_rfl) (by kernel_rfl) ?_
        simp only [List.take_succ_cons, List.take_zero, List.drop_succ_cons, List.drop_zero]
        change wpStill _ _ wr.drew _ _ _
        repeat still_step
        try refine wpStill_nil ?_
        change wpList _ _ _ _ _ wr.drew
        generalize wr.drew = wd at *
        go_wp2
        go_roundg K
        case measure => omega
        case rel =>
          refine ⟨i + 1, by go_num, by have := hi2.out; omega, ?_⟩
          refine Eq.mp (congrArg (fun x => RMix w (wd.setCell ⟨w.heap.size + 1 + 1, i, none⟩ (.int .u32 x)) G hs (sprL s (i + 1)) ss) (?_ : (q : Int) = _)) hP.out
          have := hq.out; have := q0'.out; have := q1'.out; have := q2'.out; have := q3'.out
          (try simp only [IntKind.wrap_u32])
          omega
      · have i1 : ¬ ((i : Int) < 16) := by omega
        have hsm := sprL_small s i
        have hlen := sprL_len s i
        obtain ⟨k15, h15⟩ : ∃ k, k = i - 15 := ⟨_, rfl⟩
        have e15 : IntKind.i64.wrap ((i : Int) - 15) = (k15 : Int) := by rw [IntKind.wrap_i64]; omega
        have p15a : (0 : Int) ≤ (k15 : Int) := by omega
        have p15b : (k15 : Int) < 64 := by omega
        have c15 := hM.ws.cell (i := k15) (by rw [hlen]; omega)
        obtain ⟨y15, hy15⟩ : ∃ y, (sprL s i).getD k15 0 = y := ⟨_, rfl⟩
        rw [hy15] at c15
        obtain ⟨k2, h2⟩ : ∃ k, k = i - 2 := ⟨_, rfl⟩
        have e2 : IntKind.i64.wrap ((i : Int) - 2) = (k2 : Int) := by rw [IntKind.wrap_i64]; omega
        have p2a : (0 : Int) ≤ (k2 : Int) := by omega
        have p2b : (k2 : Int) < 64 := by omega
        have c2 := hM.ws.cell (i := k2) (by rw [hlen]; omega)
        obtain ⟨y2, hy2⟩ : ∃ y, (sprL s i).getD k2 0 = y := ⟨_, rfl⟩
        rw [hy2] at c2
        obtain ⟨k16, h16'⟩ : ∃ k, k = i - 16 := ⟨_, rfl⟩
        have e16 : IntKind.i64.wrap ((i : Int) - 16) = (k16 : Int) := by rw [IntKind.wrap_i64]; omega
        have p16a : (0 : Int) ≤ (k16 : Int) := by omega
        have p16b : (k16 : Int) < 64 := by omega
        have c16 := hM.ws.cell (i := k16) (by rw [hlen]; omega)
        obtain ⟨y16, hy16⟩ : ∃ y, (sprL s i).getD k16 0 = y := ⟨_, rfl⟩
        rw [hy16] at c16
        obtain ⟨k7, h7⟩ : ∃ k, k = i - 7 := ⟨_, rfl⟩
        have e7 : IntKind.i64.wrap ((i : Int) - 7) = (k7 : Int) := by rw [IntKind.wrap_i64]; omega
        have p7a : (0 : Int) ≤ (k7 : Int) := by omega
        have p7b : (k7 : Int) < 64 := by omega
        have c7 := hM.ws.cell (i := k7) (by rw [hlen]; omega)
        obtain ⟨y7, hy7⟩ : ∃ y, (sprL s i).getD k7 0 = y := ⟨_, rfl⟩
        rw [hy7] at c7
        have x15 := hsm k15
        have x2 := hsm k2
        rw [hy15] at x15; rw [hy2] at x2
        obtain ⟨lo, hlo⟩ : ∃ l, l = low0 y15 := ⟨_, rfl⟩
        obtain ⟨hi0, hhi⟩ : ∃ l, l = low1 y2 := ⟨_, rfl⟩
        obtain ⟨nx, hnx⟩ : ∃ l, l = nextW (sprL s i) i := ⟨_, rfl⟩
        have hnx2 : nx = add32 (add32 (add32 y16 lo) y7) hi0 := by rw [hnx, nextW, ← h16', ← h15, ← h7, ← h2, hy16, hy15, hy7, hy2, hlo, hhi]
        have hqw : sprL s (i + 1) = (sprL s i).set i nx := by
          show (sprL s i).set i (if i < 16 then beWord s (4 * i) else nextW (sprL s i) i) = _
          rw [if_neg (by omega), ← hnx]
        have hi2 : i + (K + 1) = 64 := hi
        obtain ⟨l, hl⟩ : ∃ l, l = sprL s i := ⟨_, rfl⟩
        rw [← hl] at hM hqw hlen
        replace hi2 := Lib.hid hi2
        replace hM := Lib.hid hM
        replace hnx2 := Lib.hid hnx2
        replace hqw := Lib.hid hqw
        replace hlen := Lib.hid hlen
        clear hnx hy15 hy2 hy16 hy7 hsm hi h0 h16 hl
        replace h15 := Lib.hid h15; replace h2 := Lib.hid h2; replace h16' := Lib.hid h16'; replace h7 := Lib.hid h7
        go_upto_region 7 with fail
        go_cut [9, 10] from 23 to 102 (fun p q wx => p = .int .u32 (y15 : Int) ∧ q = .int .u32 (y2 : Int) ∧ wx = wr.drew)
        case first =>
          refine wp_region_still_lit (by kernel_rfl) (by kernel_rfl) ?_
          change wpStill _ _ wr.drew _ _ _
          repeat still_step
          refine wpStill_nil ?_
          go_wp2_with fail
          go_meet
          exact ⟨rfl, rfl, rfl⟩
        case rest =>
        obtain ⟨rfl, rfl, rfl⟩ := hcut
        obtain ⟨r1, hr1⟩ : ∃ r, r = rotr y15 7 := ⟨_, rfl⟩
        obtain ⟨r2, hr2⟩ : ∃ r, r = rotr y15 18 := ⟨_, rfl⟩
        obtain ⟨r3, hr3⟩ : ∃ r, r = r1 ^^^ r2 := ⟨_, rfl⟩
        obtain ⟨r4, hr4⟩ : ∃ r, r = y15 / 8 := ⟨_, rfl⟩
        have t1 : ∀ w', Calls Tryz.prog 73 #[.int .u32 (y15 : Int), .int .u64 7] w' fun e w2 => e = .returned (.int .u32 (r1 : Int)) ∧ w2 = w' := fun w' => leftTurns y15 7 r1 x15 (by omega) hr1 w'
        have t2 : ∀ w', Calls Tryz.prog 73 #[.int .u32 (y15 : Int), .int .u64 18] w' fun e w2 => e = .returned (.int .u32 (r2 : Int)) ∧ w2 = w' := fun w' => leftTurns y15 18 r2 x15 (by omega) hr2 w'
        have b1 : bits .xor .u32 (r1 : Int) (r2 : Int) = (r3 : Int) := by rw [u32_xor_nat _ _ (by rw [hr1]; exact rotr_lt _ _ x15) (by rw [hr2]; exact rotr_lt _ _ x15), hr3]
        have b2 : (y15 : Int) / 8 = (r4 : Int) := by rw [hr4]; omega
        have b2' : (r4 : Int) % 4294967296 = (r4 : Int) := by omega
        have b3 : bits .xor .u32 (r3 : Int) (r4 : Int) = (lo : Int) := by
          rw [u32_xor_nat _ _ (by rw [hr3, hr1, hr2]; exact xor_lt (rotr_lt _ _ x15) (rotr_lt _ _ x15)) (by omega), hlo, hr4, hr3, hr1, hr2]; rfl
        obtain ⟨s1, hs1⟩ : ∃ r, r = rotr y2 17 := ⟨_, rfl⟩
        obtain ⟨s2, hs2⟩ : ∃ r, r = rotr y2 19 := ⟨_, rfl⟩
        obtain ⟨s3, hs3⟩ : ∃ r, r = s1 ^^^ s2 := ⟨_, rfl⟩
        obtain ⟨s4, hs4⟩ : ∃ r, r = y2 / 1024 := ⟨_, rfl⟩
        have t3 : ∀ w', Calls Tryz.prog 73 #[.int .u32 (y2 : Int), .int .u64 17] w' fun e w2 => e = .returned (.int .u32 (s1 : Int)) ∧ w2 = w' := fun w' => leftTurns y2 17 s1 x2 (by omega) hs1 w'
        have t4 : ∀ w', Calls Tryz.prog 73 #[.int .u32 (y2 : Int), .int .u64 19] w' fun e w2 => e = .returned (.int .u32 (s2 : Int)) ∧ w2 = w' := fun w' => leftTurns y2 19 s2 x2 (by omega) hs2 w'
        have d1 : bits .xor .u32 (s1 : Int) (s2 : Int) = (s3 : Int) := by rw [u32_xor_nat _ _ (by rw [hs1]; exact rotr_lt _ _ x2) (by rw [hs2]; exact rotr_lt _ _ x2), hs3]
        have d2 : (y2 : Int) / 1024 = (s4 : Int) := by rw [hs4]; omega
        have d2' : (s4 : Int) % 4294967296 = (s4 : Int) := by omega
        have d3 : bits .xor .u32 (s3 : Int) (s4 : Int) = (hi0 : Int) := by
          rw [u32_xor_nat _ _ (by rw [hs3, hs1, hs2]; exact xor_lt (rotr_lt _ _ x2) (rotr_lt _ _ x2)) (by omega), hhi, hs4, hs3, hs1, hs2]; rfl
        clear hr1 hr2 hr3 hr4 hs1 hs2 hs3 hs4 hlo hhi x15 x2
        replace t1 := Lib.hid t1; replace t2 := Lib.hid t2; replace t3 := Lib.hid t3; replace t4 := Lib.hid t4
        have hMd := hM.out.drew.drew
        have ci := hMd.ws.cell (i := i) (by rw [hlen.out]; omega)
        have fi := hMd.ws.free i
        have hP := hMd.put i nx
        rw [← hqw.out] at hP
        replace hP := Lib.hid hP
        replace hMd := Lib.hid hMd
        go_upto_region 8 with fail
        refine wp_region_still_tail 32 (by kernel_rfl) (by kernel_rfl) ?_
        simp only [List.take_succ_cons, List.take_zero, List.drop_succ_cons, List.drop_zero]
        change wpStill _ _ wr.drew.drew _ _ _
        repeat still_step
        still_call (t1.out _)
        repeat still_step
        still_call (t2.out _)
        repeat still_step
        still_call (t3.out _)
        repeat still_step
        still_call (t4.out _)
        repeat still_step
        try refine wpStill_nil ?_
        change wpList _ _ _ _ _ wr.drew.drew
        clear hM
        generalize wr.drew.drew = wd at *
        go_wp2
        go_roundg K
        case measure => omega
        case rel =>
          refine ⟨i + 1, by go_num, by have := hi2.out; omega, ?_⟩
          first
            | exact hP.out
            | (refine Eq.mp (congrArg (fun x => RMix w (wd.setCell ⟨w.heap.size + 1 + 1, i, none⟩ (.int .u32 x)) G hs (sprL s (i + 1)) ss) (?_ : (nx : Int) = _)) hP.out
               have := hnx2.out
               unfold add32 at this
               omega)
end Go.Proofs.YtcdcipfojfnblaaGreatDoor.sha
end
section
namespace Go.Proofs.YtcdcipfojfnblaaGreatDoor.sha
set_option linter.unusedVariables false
set_option maxRecDepth 100000
/-- what each step is salted with -/
def salts : List Nat := [1116352408, 1899447441, 3049323471, 3921009573, 961987163, 1508970993, 2453635748, 2870763221, 3624381080, 310598401, 607225278, 1426881987, 1925078388, 2162078206, 2614888103, 3248222580, 3835390401, 4022224774, 264347078, 604807628, 770255983, 1249150122, 1555081692, 1996064986, 2554220882, 2821834349, 2952996808, 3210313671, 3336571891, 3584528711, 113926993, 338241895, 666307205, 773529912, 1294757372, 1396182291, 1695183700, 1986661051, 2177026350, 2456956037, 2730485921, 2820302411, 3259730800, 3345764771, 3516065817, 3600352804, 4094571909, 275423344, 430227734, 506948616, 659060556, 883997877, 958139571, 1322822218, 1537002063, 1747873779, 1955562222, 2024104815, 2227730452, 2361852424, 2428436474, 2756734187, 3204031479, 3329325298]
set_option maxRecDepth 100000 in
theorem known_abc : shaB salts [97, 98, 99] = [186, 120, 22, 191, 143, 1, 207, 234, 65, 65, 64, 222, 93, 174, 34, 35, 176, 3, 97, 163, 150, 23, 122, 156, 180, 16, 255, 97, 242, 0, 21, 173] := by decide +kernel
end Go.Proofs.YtcdcipfojfnblaaGreatDoor.sha
end
section
namespace Go.Proofs.YtcdcipfojfnblaaGreatDoor.sha
open Go.RowKit
attribute [local go_sem ↓] Go.wp_at_zero Go.wp_at_succ
attribute [local go_sem] str_size str_append
set_option linter.unusedVariables false
set_option maxRecDepth 100000

theorem salts_len : salts.length = 64 := rfl
theorem salts_small : Small salts := by
  intro i
  rcases Nat.lt_or_ge i 64 with h | h
  · have : ∀ i : Fin 64, salts.getD i.1 0 < 4294967296 := by decide +kernel
    exact this ⟨i, h⟩
  · rw [List.getD_eq_getElem?_getD, List.getElem?_eq_none h]; decide
theorem known_any (w : World) : Calls Tryz.prog 53 #[] w fun e w' => e = .returned (.slice (some ⟨w.heap.size, 0, none⟩) 64 64) ∧ Words w' w.heap.size 42 salts ∧ Below w.heap.size w w' := by
  go_enter Tryz.func53, Tryz.ntmps53
  go_wp2
  go_ret
  exact ⟨rfl, heap_alloc_new w _, by go_grown⟩

theorem hashL_front (ss h : List Nat) (A B : List UInt8) (m : Nat) (hA : A.length = 64 * m) : ∀ k, k ≤ m → hashL ss h (A ++ B) k = hashL ss h A k
  | 0, _ => rfl
  | k + 1, hk => by
    show mixedL ss (hashL ss h (A ++ B) k) _ = mixedL ss (hashL ss h A k) _
    rw [hashL_front ss h A B m hA k (by omega), List.drop_append_of_le_length (by omega), List.take_append_of_le_length (by rw [List.length_drop]; omega)]
theorem hashL_back (ss h : List Nat) (A B : List UInt8) (m : Nat) (hA : A.length = 64 * m) : ∀ k, hashL ss h (A ++ B) (m + k) = hashL ss (hashL ss h A m) B k
  | 0 => hashL_front ss h A B m hA m (Nat.le_refl _)
  | k + 1 => by
    show mixedL ss (hashL ss h (A ++ B) (m + k)) (str (((A ++ B).drop (64 * (m + k))).take 64)) = mixedL ss (hashL ss (hashL ss h A m) B k) (str ((B.drop (64 * k)).take 64))
    rw [hashL_back ss h A B m hA k, List.drop_append, List.drop_eq_nil_of_le (by omega), List.nil_append, show 64 * (m + k) - A.length = 64 * k by omega]
theorem hashL_take (ss h : List Nat) (l : List UInt8) (m : Nat) (hm : 64 * m ≤ l.length) : hashL ss h l m = hashL ss h (l.take (64 * m)) m := by
  have := hashL_front ss h (l.take (64 * m)) (l.drop (64 * m)) m (by rw [List.length_take]; omega) m (Nat.le_refl _)
  rwa [List.take_append_drop] at this
theorem padded_split (l : List UInt8) : paddedL l = l.take (64 * (l.length / 64)) ++ filledL (restL l) l.length := by
  have hr : (restL l).length = l.length % 64 := by rw [restL, List.length_drop]; omega
  have hz : padZ l.length = lastZ (restL l) - (restL l).length - 9 := by
    rw [hr]; unfold padZ lastZ; rw [hr]; split <;> omega
  unfold paddedL filledL
  rw [hz]
  have e : l = l.take (64 * (l.length / 64)) ++ restL l := (List.take_append_drop _ _).symm
  generalize be8 (l.length * 8 % 18446744073709551616) = b
  generalize List.replicate (lastZ (restL l) - (restL l).length - 9) (0 : UInt8) = z
  generalize l.take (64 * (l.length / 64)) = A at *
  generalize restL l = R at *
  rw [e]; simp
theorem padded_len (l : List UInt8) : (paddedL l).length = 64 * (l.length / 64 + lastZ (restL l) / 64) := by
  have hr : (restL l).length = l.length % 64 := by rw [restL, List.length_drop]; omega
  rw [padded_split, List.length_append, filledL_len _ _ (by omega), List.length_take]
  unfold lastZ; split <;> omega
theorem sha_padded (ss : List Nat) (l : List UInt8) : outB (hashL ss H0 (paddedL l) (l.length / 64 + lastZ (restL l) / 64)) 8 = shaB ss l := by
  rw [padded_split, hashL_back ss H0 _ _ (l.length / 64) (by rw [List.length_take]; omega), ← hashL_take ss H0 l (l.length / 64) (by omega)]
  rfl
/-- 'string([]byte{a, b, c, d})' -/
theorem conv_four (W : World) (q : Nat) (n0 n1 n2 n3 : Int) (h : W.heap[q]? = some (.cells #[.int .u8 n0, .int .u8 n1, .int .u8 n2, .int .u8 n3] 5 (0, 0))) : (convert 70 9 (.slice (some ⟨q, 0, none⟩) 4 4)).run Tryz.prog W = .ok (.string (str [UInt8.ofNat n0.toNat, UInt8.ofNat n1.toNat, UInt8.ofNat n2.toNat, UInt8.ofNat n3.toNat])) W := by
  rw [run_convert_bytes_arg (P := Tryz.prog) W 70 5 Tryz.underlying70 Tryz.underlying5 q 0 4 4 [n0, n1, n2, n3] rfl (fun i hi => by
    rw [cell_of_row _ _ _ _ _ _ h]
    have : i = 0 ∨ i = 1 ∨ i = 2 ∨ i = 3 := by omega
    rcases this with rfl | rfl | rfl | rfl <;> rfl) 9 Tryz.underlying9]
  rfl
/-- what stands while blocks are mixed: the words, the salts -/
def RS (w wr : World) (B G : Nat) (hs ss : List Nat) : Prop := Words wr B 115 hs ∧ Words wr G 42 ss ∧ G < B ∧ w.heap.size ≤ G ∧ Below w.heap.size w wr
theorem RS.below {w wr w1 : World} {B G : Nat} {hs ss : List Nat} (h : RS w wr B G hs ss) (k : Below wr.heap.size wr w1) : RS w w1 B G hs ss :=
  ⟨h.1.below k, h.2.1.below k, h.2.2.1, h.2.2.2.1, belowCont h.2.2.2.2 k⟩
theorem RS.salts {w wr : World} {B G : Nat} {hs ss : List Nat} (h : RS w wr B G hs ss) : Words wr G 42 ss := h.2.1
theorem RS.store {w wr w1 : World} {B G : Nat} {hs zs ss : List Nat} (h : RS w wr B G hs ss) (k : Keeps [B] wr w1) (hw : Words w1 B 115 zs) : RS w w1 B G zs ss :=
  ⟨hw, h.2.1.keep k (by have := h.2.2.1; simp; omega), h.2.2.1, h.2.2.2.1, h.2.2.2.2.trans (k.below h.2.2.2.2.size (by have := h.2.2.1; have := h.2.2.2.1; simp; omega))⟩
set_option maxRecDepth 100000 in
set_option maxHeartbeats 8000000 in
theorem rsum_any (l : List UInt8) (hl : l.length ≤ 1000000000) (w : World) :
    Calls Tryz.prog 25 #[.string (str l)] w fun e w' => e = .returned (.string (str (shaB salts l))) ∧ Below w.heap.size w w' := by
  obtain ⟨ss, hss0⟩ : ∃ ss, ss = salts := ⟨_, rfl⟩
  have hsl : ss.length = 64 := by rw [hss0]; rfl
  have hss : Small ss := by rw [hss0]; exact salts_small
  have hkn := known_any
  rw [← hss0] at hkn ⊢
  have hpa := fun w' => padded_any l hl w'
  obtain ⟨P, hP⟩ : ∃ P, P = paddedL l := ⟨_, rfl⟩
  obtain ⟨nz, hnz⟩ : ∃ n, n = l.length / 64 + lastZ (restL l) / 64 := ⟨_, rfl⟩
  have hPl : P.length = 64 * nz := by rw [hP, hnz]; exact padded_len l
  have hfin : outB (hashL ss H0 P nz) 8 = shaB ss l := by rw [hP, hnz]; exact sha_padded ss l
  have hnz2 : nz ≤ 20000000 := by rw [hnz]; unfold lastZ; split <;> omega
  rw [← hP] at hpa
  obtain ⟨T0, hT0⟩ : ∃ T, T = str P := ⟨_, rfl⟩
  have hTs : T0.size = 64 * nz := by rw [hT0, str_size, hPl]
  have hextR : ∀ a b, T0.extract a b = str ((P.drop a).take (b - a)) := fun a b => by rw [hT0]; exact cut_extract P a b
  rw [← hT0] at hpa
  clear hT0 hP hnz hss0
  replace hpa := Lib.hid hpa; replace hextR := Lib.hid hextR; replace hss := Lib.hid hss; replace hl := Lib.hid hl; replace hPl := Lib.hid hPl; replace hnz2 := Lib.hid hnz2
  replace hfin := Lib.hid hfin; replace hsl := Lib.hid hsl; replace hkn := Lib.hid hkn
  go_enter Tryz.func25, Tryz.ntmps25
  go_wp2_with (first
    | (go_at_call 52; (with_reducible refine (hpa.out _).mono ?_); rintro e w1 ⟨rfl, b1⟩; replace b1 := Lib.hid b1)
    | (go_at_call 53; (with_reducible refine (hkn.out _).mono ?_); rintro e w2 ⟨rfl, hG, b2⟩; have hlt := block_lt hG; replace hG := Lib.hid hG; replace b2 := Lib.hid b2; replace hlt := Lib.hid hlt)
    | (refine wpList_store_words eight8 rfl (.tmp 4) (.tmp 12) rfl w2.heap.size H0 rfl rfl rfl ⟨_, heap_alloc_new _ _, rfl⟩ ?_; intro w3 W3 K3; replace K3 := Lib.hid K3; replace W3 := Lib.hid W3))
  obtain ⟨G, hGG⟩ : ∃ G, G = w1.heap.size := ⟨_, rfl⟩
  obtain ⟨B, hBB⟩ : ∃ B, B = w2.heap.size := ⟨_, rfl⟩
  rw [← hGG] at hG hlt ⊢
  rw [← hBB] at hlt W3 K3 ⊢
  have hK3 : Keeps [B] w2 w3 := by
    have h := K3.out
    have : B = w2.heap.size := hBB
    exact ((Keeps.refl [B] w2).alloc _).trans h
  have hwG : w.heap.size ≤ G := by rw [hGG]; exact b1.out.size
  have hR3 : RS w w3 B G H0 ss := ⟨W3.out, hG.out.keep hK3 (by have := hlt.out; simp; omega), hlt.out, hwG, (belowCont b1.out b2.out).trans (hK3.below (belowCont b1.out b2.out).size (by have := hlt.out; simp; omega))⟩
  clear W3 K3 hK3 hG hlt hGG hBB b1 b2 hwG
  replace hR3 := Lib.hid hR3
  go_loopg [6] nz (fun gn s6 wr => ∃ k : Nat, s6 = .int .i64 (64 * (k : Int)) ∧ k + gn = nz ∧ RS w wr B G (hashL ss H0 P k) ss)
  case atStart => exact ⟨0, rfl, by omega, hR3.out⟩
  case round =>
    clear hR3
    obtain ⟨j, rfl, hj, hM⟩ := hrel
    by_cases h0 : gk = 0
    · obtain rfl : j = nz := by omega
      have hlt2 : ¬ (64 * (j : Int) < 64 * (j : Int)) := by omega
      have hgj := (hashL_good ss H0_good P j)
      obtain ⟨fs, hfs⟩ : ∃ ys, ys = hashL ss H0 P j := ⟨_, rfl⟩
      have hfin2 := hfin.out
      rw [← hfs] at hM hgj hfin2
      clear hj h0 hfs
      replace hfin2 := Lib.hid hfin2
      replace hM := Lib.hid hM
      replace hgj := Lib.hid hgj
      go_wp2
      go_loopg [7, 8] 8 (fun gn s7 s8 wr => ∃ i : Nat, s7 = .string (str (outB fs i)) ∧ s8 = .int .i64 (i : Int) ∧ i + gn = 8 ∧ RS w wr B G fs ss)
      case atStart => exact ⟨0, rfl, rfl, rfl, hM.out⟩
      case round =>
        clear hM
        obtain ⟨i, rfl, rfl, hi, hM⟩ := hrel
        by_cases h0 : gk = 0
        · obtain rfl : i = 8 := by omega
          rw [hfin2.out]
          replace hM := Lib.hid hM
          clear hi h0
          go_wp2
          go_ret
          exact ⟨rfl, hM.out.2.2.2.2⟩
        · obtain ⟨K, rfl⟩ : ∃ K : Nat, gk = K + 1 := ⟨gk - 1, by omega⟩
          have i1 : (i : Int) < 8 := by omega
          have i0 : (0 : Int) ≤ (i : Int) := by omega
          have hc := hM.1.cell (i := i) (by rw [hgj.out.1]; omega)
          obtain ⟨z, hz⟩ : ∃ z, z = fs.getD i 0 := ⟨_, rfl⟩
          have hzl : z < 4294967296 := by rw [hz]; exact hgj.out.2 i
          rw [← hz] at hc
          obtain ⟨v0, hv0⟩ : ∃ v : Nat, v = z / 16777216 % 256 := ⟨_, rfl⟩
          obtain ⟨v1, hv1⟩ : ∃ v : Nat, v = z / 65536 % 256 := ⟨_, rfl⟩
          obtain ⟨v2, hv2⟩ : ∃ v : Nat, v = z / 256 % 256 := ⟨_, rfl⟩
          obtain ⟨v3, hv3⟩ : ∃ v : Nat, v = z % 256 := ⟨_, rfl⟩
          have ev0 : (z : Int) / 16777216 = (v0 : Int) := by omega
          have ew0 : (v0 : Int) % 256 = (v0 : Int) := by omega
          have ex0 : (v0 : Int) % 4294967296 = (v0 : Int) := by omega
          have ev1 : (z : Int) / 65536 % 256 = (v1 : Int) := by omega
          have ey1 : (z : Int) / 65536 % 4294967296 = (z : Int) / 65536 := by omega
          have ey2 : (z : Int) / 256 % 4294967296 = (z : Int) / 256 := by omega
          have ev2 : (z : Int) / 256 % 256 = (v2 : Int) := by omega
          have ev3 : (z : Int) % 256 = (v3 : Int) := by omega
          have eu0 : IntKind.u8.wrap (v0 : Int) = v0 := IntWalk.u8_in _ (by omega)
          have eu1 : IntKind.u8.wrap (v1 : Int) = v1 := IntWalk.u8_in _ (by omega)
          have eu2 : IntKind.u8.wrap (v2 : Int) = v2 := IntWalk.u8_in _ (by omega)
          have eu3 : IntKind.u8.wrap (v3 : Int) = v3 := IntWalk.u8_in _ (by omega)
          have hnext : outB fs (i + 1) = outB fs i ++ [UInt8.ofNat v0, UInt8.ofNat v1, UInt8.ofNat v2, UInt8.ofNat v3] := by
            rw [hv0, hv1, hv2, hv3, hz]; rfl
          have hlen : (outB fs i).length = 4 * i := outB_len fs i
          have hroom : ¬ 9223372036854775807 < 4 * i + 4 := by omega
          have hw4 := conv_four (wr.alloc (.cells #[.int .u8 (v0 : Int), .int .u8 (v1 : Int), .int .u8 (v2 : Int), .int .u8 (v3 : Int)] 5)) wr.heap.size (v0 : Int) (v1 : Int) (v2 : Int) (v3 : Int) (heap_alloc_new wr _)
          have hi2 := Lib.hid hi
          replace hnext := Lib.hid hnext
          replace hM := Lib.hid hM
          clear hi h0 hv0 hv1 hv2 hv3 hz hzl
          go_wp2
          go_roundg K
          case measure => omega
          case rel => exact ⟨i + 1, by rw [hnext.out] <;> first | rfl | simp, by go_num, by have := hi2.out; omega, hM.out.below (by go_grown)⟩
    · obtain ⟨K, rfl⟩ : ∃ K : Nat, gk = K + 1 := ⟨gk - 1, by omega⟩
      have k0 : (0 : Int) ≤ 64 * (j : Int) := by omega
      have k1 : 64 * (j : Int) < 64 * (nz : Int) := by omega
      have k2 : 64 * (j : Int) + 64 ≤ 64 * (nz : Int) := by omega
      have k3 : 64 * (j : Int) ≤ 64 * (j : Int) + 64 := by omega
      have k5 : IntKind.i64.wrap (64 * (j : Int) + 64) = 64 * (j : Int) + 64 := by have := hnz2.out; rw [IntKind.wrap_i64]; omega
      obtain ⟨blk, hblk⟩ : ∃ b, b = str ((P.drop (64 * j)).take 64) := ⟨_, rfl⟩
      have hbs : blk.size = 64 := by rw [hblk, str_size, List.length_take, List.length_drop]; have := hPl.out; omega
      have hcut : T0.extract (64 * j) (64 * j + 64) = blk := by rw [hextR.out, hblk, show 64 * j + 64 - 64 * j = 64 by omega]
      have hgk := hashL_good ss H0_good P j
      obtain ⟨ys, hys⟩ : ∃ ys, ys = hashL ss H0 P j := ⟨_, rfl⟩
      have hnext : hashL ss H0 P (j + 1) = mixedL ss ys blk := by rw [hys, hblk]; rfl
      rw [← hys] at hgk hM
      have hmix := fun w' hw => rwords_any ss ys blk hgk.1 hgk.2 hbs hsl.out hss.out G w' hw
      rw [← hnext] at hmix
      obtain ⟨zs, hzs⟩ : ∃ zs, zs = hashL ss H0 P (j + 1) := ⟨_, rfl⟩
      have hgz := (hashL_good ss H0_good P (j + 1)).1
      rw [← hzs] at hmix hgz
      have hlen := hgk.1
      have hk2 := Lib.hid hj
      clear hgk hnext hys hblk hj h0
      replace hzs := Lib.hid hzs; replace hmix := Lib.hid hmix; replace hlen := Lib.hid hlen; replace hgz := Lib.hid hgz; replace hbs := Lib.hid hbs
      replace hM := Lib.hid hM
      go_upto_region 5 with fail
      refine wp_region_still_tail 7 (by kernel_rfl) (by kernel_rfl) ?_
      simp only [List.take_succ_cons, List.take_zero, List.drop_succ_cons, List.drop_zero]
      refine still_load_words eight8 Tryz.underlying115 rfl (.tmp 4) rfl B ys rfl hM.out.1 hlen.out ?_
      repeat still_step
      try refine wpStill_nil ?_
      change wpList _ _ _ _ _ wr.drew
      have hM2 : RS w wr.drew B G ys ss := ⟨hM.out.1, hM.out.2.1, hM.out.2.2.1, hM.out.2.2.2.1, hM.out.2.2.2.2.drew⟩
      generalize wr.drew = wd at *
      replace hM2 := Lib.hid hM2
      clear hM
      go_wp2_with (first
        | (go_at_call 54; (try rw [hcut]); (with_reducible refine (hmix.out _ hM2.out.salts).mono ?_); rintro e w4 ⟨rfl, b4⟩; replace hM2 := Lib.hid (hM2.out.below b4))
        | (refine wpList_store_words eight8 rfl (.tmp 4) (.tmp 27) rfl B zs rfl rfl hgz.out ⟨_, hM2.out.1, by simp [hlen.out]⟩ ?_; intro w5 W5 K5; replace hM2 := Lib.hid (hM2.out.store K5 W5); clear K5 W5))
      go_roundg K
      case measure => omega
      case rel => exact ⟨j + 1, by rw [show 64 * (j : Int) + 64 = 64 * ((j + 1 : Nat) : Int) by omega], by have := hk2.out; omega, by rw [← hzs.out]; exact hM2.out⟩
end Go.Proofs.YtcdcipfojfnblaaGreatDoor.sha
end
section
namespace Go.Proofs.YtcdcipfojfnblaaGreatDoor.sha
open Go.RowKit
attribute [local go_sem ↓] Go.wp_at_zero Go.wp_at_succ
set_option linter.unusedVariables false
set_option maxRecDepth 100000

theorem gTab : Tryz.prog.globalNamed "lodestone/sha.salts" = some 0 := by kernel_rfl
theorem gTabType : (Tryz.prog.globals[0]?).map (·.type) = some 189 := by kernel_rfl
theorem cellsTab : Tryz.prog.cellsOf 189 = 64 := by kernel_rfl
theorem cellsOne : Tryz.prog.cellsOf 42 = 1 := by kernel_rfl
def saltsI : List Int := salts.map fun (n : Nat) => Int.ofNat n
/-- what the row's list gives -/
theorem saltAt_of {W : World} (h : laidMetH Tryz.prog [("lodestone/sha.salts", Rows.laid_lodestone_sha_salts)] W) : SaltAt W salts := by
  have ht : Lib.TabIs Tryz.prog W "lodestone/sha.salts" .u32 saltsI := Lib.tabIs_of_head (rest := []) gTab gTabType Tryz.underlying189 Tryz.underlying42 cellsOne cellsTab h
  have hc : ∀ i, i < 64 → W.cell? ⟨0, i, none⟩ = some (.int .u32 ((salts.getD i 0 : Nat) : Int)) := fun i hi => by
    have h1 := ht.cell gTab i (by simp [saltsI, salts_len]; exact hi)
    have e : saltsI.getD i 0 = ((salts.getD i 0 : Nat) : Int) := by
      have : i < salts.length := by rw [salts_len]; exact hi
      simp [saltsI, List.getD, List.getElem?_eq_getElem this]
    rw [e] at h1; exact h1
  exact ⟨hc, World.block_lt_of_cell? W _ (hc 0 (by decide))⟩
end Go.Proofs.YtcdcipfojfnblaaGreatDoor.sha
end
