/- The document's own ChaCha20 (package lodestoneref03): a block. No condition. -/
import Derived.Test.YtdhboldmffiklabDoorChaRef2
namespace Go.Proofs.YtdhboldmffiklabDoor.chacha
open Go.RowKit
attribute [local go_sem ↓] Go.wp_at_zero Go.wp_at_succ
attribute [local go_sem] str_size str_append
set_option linter.unusedVariables false
set_option maxRecDepth 100000

/-- 'string([]byte{a, b, c, d})' -/
theorem conv_four (W : World) (q : Nat) (n0 n1 n2 n3 : Int) (h : W.heap[q]? = some (.cells #[.int .u8 n0, .int .u8 n1, .int .u8 n2, .int .u8 n3] 5 (0, 0))) : (convert 52 9 (.slice (some ⟨q, 0, none⟩) 4 4)).run Tryd.prog W = .ok (.string (str [UInt8.ofNat n0.toNat, UInt8.ofNat n1.toNat, UInt8.ofNat n2.toNat, UInt8.ofNat n3.toNat])) W := by
  rw [run_convert_bytes_arg (P := Tryd.prog) W 52 5 Tryd.underlying52 Tryd.underlying5 q 0 4 4 [n0, n1, n2, n3] rfl (fun i hi => by
    rw [cell_of_row _ _ _ _ _ _ h]
    have : i = 0 ∨ i = 1 ∨ i = 2 ∨ i = 3 := by omega
    rcases this with rfl | rfl | rfl | rfl <;> rfl) 9 Tryd.underlying9]
  rfl
/-- the bytes of so many words, one behind the other -/
def outP (ns : List Nat) : Nat → List UInt8
  | 0 => []
  | k + 1 => outP ns k ++ [UInt8.ofNat (ns.getD k 0 % 256), UInt8.ofNat (ns.getD k 0 / 256 % 256), UInt8.ofNat (ns.getD k 0 / 65536 % 256), UInt8.ofNat (ns.getD k 0 / 16777216 % 256)]
theorem outP_len (ns : List Nat) (k : Nat) : (outP ns k).length = 4 * k := by
  induction k with
  | zero => rfl
  | succ k ih => simp [outP, ih]; omega
theorem set4 (A B : List Nat) (n : Nat) (hA : A.length = n) (x y z u a b c d : Nat) : ((((A ++ x :: y :: z :: u :: B).set n a).set (n + 1) b).set (n + 2) c).set (n + 3) d = A ++ a :: b :: c :: d :: B := by
  subst hA
  simp [List.set_append]
theorem outL_form (ns : List Nat) : ∀ k, k ≤ 16 → (∃ A : List Nat, outL ns k = A ++ List.replicate (64 - 4 * k) 0 ∧ A.length = 4 * k ∧ A.map UInt8.ofNat = outP ns k)
  | 0, _ => ⟨[], rfl, rfl, rfl⟩
  | k + 1, h => by
    obtain ⟨A, h1, h2, h3⟩ := outL_form ns k (by omega)
    refine ⟨A ++ [ns.getD k 0 % 256, ns.getD k 0 / 256 % 256, ns.getD k 0 / 65536 % 256, ns.getD k 0 / 16777216 % 256], ?_, ?_, ?_⟩
    · show ((((outL ns k).set (4 * k) _).set (4 * k + 1) _).set (4 * k + 2) _).set (4 * k + 3) _ = _
      rw [h1, show 64 - 4 * k = (64 - 4 * (k + 1)) + 1 + 1 + 1 + 1 by omega, List.replicate_succ, List.replicate_succ, List.replicate_succ, List.replicate_succ, set4 A _ (4 * k) h2]
      simp
    · simp [h2]; omega
    · rw [List.map_append, h3]; rfl
theorem outL_outP (ns : List Nat) : (outL ns 16).map UInt8.ofNat = outP ns 16 := by
  obtain ⟨A, h1, h2, h3⟩ := outL_form ns 16 (by omega)
  rw [h1]; simpa using h3

/-- what stands while a block is made: the first state and what is stirred -/
def Two (w wr : World) (X : Nat) (fs xs : List Nat) : Prop :=
  Words wr w.heap.size 236 fs ∧ Words wr X 236 xs ∧ w.heap.size < X ∧ Below w.heap.size w wr
theorem Two.below {w wr w1 : World} {X : Nat} {fs xs : List Nat} (h : Two w wr X fs xs) (k : Below wr.heap.size wr w1) : Two w w1 X fs xs :=
  ⟨h.1.below k, h.2.1.below k, h.2.2.1, belowCont h.2.2.2 k⟩
theorem Two.old {w wr : World} {X : Nat} {fs xs : List Nat} (h : Two w wr X fs xs) (hl : xs.length = 16) : ∃ z, wr.heap[X]? = some (.cells z 236 (0, 0)) ∧ z.size = 16 := ⟨_, h.2.1, by simp [hl]⟩
theorem Two.store {w wr w1 : World} {X : Nat} {fs xs ys : List Nat} (h : Two w wr X fs xs) (k : Keeps [X] wr w1) (hw : Words w1 X 236 ys) : Two w w1 X fs ys :=
  ⟨h.1.keep k (by have := h.2.2.1; simp; omega), hw, h.2.2.1, h.2.2.2.trans (k.below h.2.2.2.size (by have := h.2.2.1; simp; omega))⟩
theorem word4 (w : World) (cs : Array Value) (t : TypeId) (xs : List Nat) (h : (xs.map word).toArray = cs) : Words (w.alloc (.cells cs t)) w.heap.size t xs := by
  subst h; exact heap_alloc_new _ _

theorem round_step (ys : List Nat) : diags (cols ys 4) 4 = quarterL (quarterL (quarterL (quarterL (quarterL (quarterL (quarterL (quarterL ys 0 4 8 12) 1 5 9 13) 2 6 10 14) 3 7 11 15) 0 5 10 15) 1 6 11 12) 2 7 8 13) 3 4 9 14 := rfl
theorem rounds_succ (xs : List Nat) (k : Nat) : rounds xs (k + 1) = diags (cols (rounds xs k) 4) 4 := rfl
theorem Two.fs {w wr : World} {X : Nat} {fs xs : List Nat} (h : Two w wr X fs xs) : Words wr w.heap.size 236 fs := h.1
theorem Two.low {w wr : World} {X : Nat} {fs xs : List Nat} (h : Two w wr X fs xs) : Below w.heap.size w wr := h.2.2.2
attribute [local irreducible] quarterL Two
theorem Two.mk {w wr : World} {X : Nat} {fs xs : List Nat} (h : Words wr w.heap.size 236 fs ∧ Words wr X 236 xs ∧ w.heap.size < X ∧ Below w.heap.size w wr) : Two w wr X fs xs := by unfold Two; exact h
theorem Two.xs {w wr : World} {X : Nat} {fs xs : List Nat} (h : Two w wr X fs xs) : Words wr X 236 xs := by unfold Two at h; exact h.2.1
set_option maxRecDepth 100000 in
set_option maxHeartbeats 4000000 in
theorem rblock_any (key nonce : ByteArray) (n : Nat) (hk : key.size = 32) (hn : nonce.size = 12) (hN : n < 4294967296) (w : World) :
    Calls Tryd.prog 138 #[.string key, .string nonce, .int .u32 (n : Int)] w fun e w' => e = .returned (.string (str (blockU (stAt key nonce n)))) ∧ Below w.heap.size w w' := by
  go_enter Tryd.func138, Tryd.ntmps138
  go_wp2_with (refine wpList_store_words rfl (.tmp 7) (.tmp 15) rfl w.heap.size consts rfl rfl rfl ⟨_, heap_alloc_new _ _, rfl⟩ ?_; intro w3 W3 K3; replace K3 := Lib.hid K3; replace W3 := Lib.hid W3)
  have hB3 : Below w.heap.size w w3 := ((Below.refl _ w).alloc (Nat.le_refl _) _).trans (K3.out.below (by simp) (by simp))
  clear K3
  replace hB3 := Lib.hid hB3
  go_loopg [8] 8 (fun gn s8 wr => ∃ i : Nat, s8 = .int .i64 (i : Int) ∧ i + gn = 8 ∧ Words wr w.heap.size 236 (keyed key i) ∧ Below w.heap.size w wr)
  case atStart => exact ⟨0, rfl, rfl, W3.out, hB3.out⟩
  case round =>
    clear W3 hB3
    obtain ⟨i, rfl, hi, hW, hB⟩ := hrel
    by_cases h0 : gk = 0
    · obtain rfl : i = 8 := by omega
      have c12 := hW.cell (i := 12) (by rw [keyed_len]; decide)
      have f12 := hW.free 12
      have P := hW.put 12 n
      have B := hB.setCell (p := ⟨w.heap.size, 12, none⟩) (Nat.le_refl _) (.int .u32 (n : Int))
      replace P := Lib.hid P
      replace B := Lib.hid B
      clear hW hB hi h0
      go_wp2
      go_loopg [9] 3 (fun gn s9 wr => ∃ i : Nat, s9 = .int .i64 (i : Int) ∧ i + gn = 3 ∧ Words wr w.heap.size 236 ((nonced key nonce i).set 12 n) ∧ Below w.heap.size w wr)
      case atStart => exact ⟨0, rfl, rfl, P.out, B.out⟩
      case round =>
        clear P B c12 f12
        obtain ⟨i, rfl, hi, hW, hB⟩ := hrel
        by_cases h0 : gk = 0
        · obtain rfl : i = 3 := by omega
          have hgf := stAt_good key nonce n hN
          have hW2 : Words wr w.heap.size 236 (stAt key nonce n) := hW
          obtain ⟨fs, hfs⟩ : ∃ fs, fs = stAt key nonce n := ⟨_, rfl⟩
          rw [← hfs] at hgf hW2
          obtain ⟨X, hX⟩ : ∃ X, X = wr.heap.size := ⟨_, rfl⟩
          have hFX : w.heap.size < X := by rw [hX]; exact block_lt hW2
          have hB2 := hB
          have hgx := hgf
          replace hW2 := Lib.hid hW2
          replace hgf := Lib.hid hgf
          replace hgx := Lib.hid hgx
          replace hfs := Lib.hid hfs
          replace hB2 := Lib.hid hB2
          replace hFX := Lib.hid hFX
          clear hi h0 hW hB
          go_wp2_with (first
            | (refine wpList_load_words rfl (.tmp 7) rfl w.heap.size fs rfl hW2.out hgf.out.1 ?_)
            | (refine wpList_store_words rfl (.tmp 10) (.tmp 40) rfl wr.heap.size fs rfl rfl hgf.out.1 ⟨_, heap_alloc_new _ _, rfl⟩ ?_; intro w5 W5 K5; replace W5 := Lib.hid W5; replace K5 := Lib.hid (((Keeps.refl [wr.heap.size] wr).alloc _).trans K5)))
          rw [← hX] at W5 K5 ⊢
          have hT0 : Two w w5 X fs (rounds fs 0) := Two.mk ⟨hW2.out.keep K5.out (by have := hFX.out; simp; omega), W5.out, hFX.out, hB2.out.trans (K5.out.below hB2.out.size (by have := hFX.out; simp; omega))⟩
          replace hT0 := Lib.hid hT0
          clear hX W5 K5 hB2 hW2
          go_loopg [11] 10 (fun gn s11 wr => ∃ i : Nat, s11 = .int .i64 (i : Int) ∧ i + gn = 10 ∧ Two w wr X fs (rounds fs i))
          case atStart => exact ⟨0, rfl, rfl, hT0.out⟩
          case round =>
            clear hT0
            obtain ⟨i, rfl, hi, hT⟩ := hrel
            have hG := hgf.out.rounds i
            by_cases h0 : gk = 0
            · obtain rfl : i = 10 := by omega
              obtain ⟨zs, hzs⟩ : ∃ zs, zs = rounds fs 10 := ⟨_, rfl⟩
              rw [← hzs] at hT hG
              obtain ⟨ns, hns⟩ : ∃ ns, ns = sums zs fs := ⟨_, rfl⟩
              have hout : outP ns 16 = blockU (stAt key nonce n) := by rw [hns, hzs, ← hfs.out, ← outL_outP]; rfl
              have hsum : ∀ i, i < 16 → ns.getD i 0 = add32 (zs.getD i 0) (fs.getD i 0) := fun i hi => by rw [hns]; simp [sums, List.getD, hi]
              replace hsum := Lib.hid hsum
              replace hout := Lib.hid hout
              replace hT := Lib.hid hT
              replace hG := Lib.hid hG
              clear hi h0 hzs hns
              go_wp2
              go_loopg [12, 13] 16 (fun gn s12 s13 wr => ∃ i : Nat, s12 = .string (str (outP ns i)) ∧ s13 = .int .i64 (i : Int) ∧ i + gn = 16 ∧ Two w wr X fs zs)
              case atStart => exact ⟨0, rfl, rfl, rfl, hT.out⟩
              case round =>
                clear hT
                obtain ⟨i, rfl, rfl, hi, hT⟩ := hrel
                by_cases h0 : gk = 0
                · obtain rfl : i = 16 := by omega
                  rw [hout.out]
                  replace hT := Lib.hid hT
                  clear hi h0
                  go_wp2
                  go_ret
                  exact ⟨rfl, hT.out.low⟩
                · obtain ⟨K, rfl⟩ : ∃ K : Nat, gk = K + 1 := ⟨gk - 1, by omega⟩
                  have i1 : (i : Int) < 16 := by omega
                  have i0 : (0 : Int) ≤ (i : Int) := by omega
                  have ca := hT.xs.cell (i := i) (by rw [hG.out.1]; omega)
                  have cb := hT.fs.cell (i := i) (by rw [hgx.out.1]; omega)
                  have hs := hsum.out i (by omega)
                  obtain ⟨y1, e1⟩ : ∃ y, zs.getD i 0 = y := ⟨_, rfl⟩
                  obtain ⟨y2, e2⟩ : ∃ y, fs.getD i 0 = y := ⟨_, rfl⟩
                  rw [e1] at ca; rw [e2] at cb; rw [e1, e2] at hs
                  obtain ⟨z, hz⟩ : ∃ z, z = add32 y1 y2 := ⟨_, rfl⟩
                  have ez : ((y1 : Int) + y2) % 4294967296 = (z : Int) := by rw [hz]; simp [add32]
                  have hzl : z < 4294967296 := by rw [hz]; exact Nat.mod_lt _ (by decide)
                  rw [← hz] at hs
                  replace hs := Lib.hid hs
                  replace hT := Lib.hid hT
                  have hi2 := Lib.hid hi
                  replace hzl := Lib.hid hzl
                  clear e1 e2 hz hi h0
                  go_upto_region 27 with fail
                  go_cut [14] from 61 to 89 (fun v wx => v = .int .u32 (z : Int) ∧ wx = wr.drew)
                  case first =>
                    go_region
                    all_goals go_wp2_with fail
                    all_goals go_meet
                    all_goals exact ⟨by rw [ez], rfl⟩
                  case rest =>
                  obtain ⟨rfl, rfl⟩ := hcut
                  obtain ⟨v0, hv0⟩ : ∃ v : Nat, v = z % 256 := ⟨_, rfl⟩
                  obtain ⟨v1, hv1⟩ : ∃ v : Nat, v = z / 256 % 256 := ⟨_, rfl⟩
                  obtain ⟨v2, hv2⟩ : ∃ v : Nat, v = z / 65536 % 256 := ⟨_, rfl⟩
                  obtain ⟨v3, hv3⟩ : ∃ v : Nat, v = z / 16777216 % 256 := ⟨_, rfl⟩
                  have hzl := hzl.out
                  have ev0 : (z : Int) % 256 = (v0 : Int) := by omega
                  have ev1 : (z : Int) / 256 % 256 = (v1 : Int) := by omega
                  have ev2 : (z : Int) / 65536 % 256 = (v2 : Int) := by omega
                  have ev3 : (z : Int) / 16777216 = (v3 : Int) := by omega
                  have eu0 : IntKind.u8.wrap (v0 : Int) = v0 := IntWalk.u8_in _ (by omega)
                  have eu1 : IntKind.u8.wrap (v1 : Int) = v1 := IntWalk.u8_in _ (by omega)
                  have eu2 : IntKind.u8.wrap (v2 : Int) = v2 := IntWalk.u8_in _ (by omega)
                  have eu3 : IntKind.u8.wrap (v3 : Int) = v3 := IntWalk.u8_in _ (by omega)
                  replace hv0 := Lib.hid hv0; replace hv1 := Lib.hid hv1; replace hv2 := Lib.hid hv2; replace hv3 := Lib.hid hv3
                  have hw4 := conv_four (wr.alloc (.cells #[.int .u8 (v0 : Int), .int .u8 (v1 : Int), .int .u8 (v2 : Int), .int .u8 (v3 : Int)] 5)).drew wr.heap.size (v0 : Int) (v1 : Int) (v2 : Int) (v3 : Int) (heap_alloc_new wr _)
                  have hlen : (outP ns i).length = 4 * i := outP_len ns i
                  have hroom : ¬ 9223372036854775807 < 4 * i + 4 := by omega
                  clear ca cb ez
                  go_wp2_with fail
                  go_roundg K
                  case measure => omega
                  case rel =>
                    refine ⟨i + 1, ?_, by go_num, by have := hi2.out; omega, hT.out.below (by go_grown)⟩
                    show _ = Value.string (str (outP ns i ++ [UInt8.ofNat (ns.getD i 0 % 256), UInt8.ofNat (ns.getD i 0 / 256 % 256), UInt8.ofNat (ns.getD i 0 / 65536 % 256), UInt8.ofNat (ns.getD i 0 / 16777216 % 256)]))
                    rw [hs.out, ← hv0.out, ← hv1.out, ← hv2.out, ← hv3.out]
            · obtain ⟨K, rfl⟩ : ∃ K : Nat, gk = K + 1 := ⟨gk - 1, by omega⟩
              have i1 : (i : Int) < 10 := by omega
              have i0 : (0 : Int) ≤ (i : Int) := by omega
              obtain ⟨ys, hys⟩ : ∃ ys, ys = rounds fs i := ⟨_, rfl⟩
              rw [← hys] at hT hG
              have hq1 : ∀ (zs : List Nat) (hz : Good zs) (w' : World), Calls Tryd.prog 187 #[.agg (zs.map word).toArray, .int .i64 0, .int .i64 4, .int .i64 8, .int .i64 12] w' fun e w2 => e = .returned (.agg ((quarterL zs 0 4 8 12).map word).toArray) ∧ Below w'.heap.size w' w2 := fun zs hz w' => rquarter_any zs 0 4 8 12 hz (by decide) (by decide) (by decide) (by decide) w'
              have hq2 : ∀ (zs : List Nat) (hz : Good zs) (w' : World), Calls Tryd.prog 187 #[.agg (zs.map word).toArray, .int .i64 1, .int .i64 5, .int .i64 9, .int .i64 13] w' fun e w2 => e = .returned (.agg ((quarterL zs 1 5 9 13).map word).toArray) ∧ Below w'.heap.size w' w2 := fun zs hz w' => rquarter_any zs 1 5 9 13 hz (by decide) (by decide) (by decide) (by decide) w'
              have hq3 : ∀ (zs : List Nat) (hz : Good zs) (w' : World), Calls Tryd.prog 187 #[.agg (zs.map word).toArray, .int .i64 2, .int .i64 6, .int .i64 10, .int .i64 14] w' fun e w2 => e = .returned (.agg ((quarterL zs 2 6 10 14).map word).toArray) ∧ Below w'.heap.size w' w2 := fun zs hz w' => rquarter_any zs 2 6 10 14 hz (by decide) (by decide) (by decide) (by decide) w'
              have hq4 : ∀ (zs : List Nat) (hz : Good zs) (w' : World), Calls Tryd.prog 187 #[.agg (zs.map word).toArray, .int .i64 3, .int .i64 7, .int .i64 11, .int .i64 15] w' fun e w2 => e = .returned (.agg ((quarterL zs 3 7 11 15).map word).toArray) ∧ Below w'.heap.size w' w2 := fun zs hz w' => rquarter_any zs 3 7 11 15 hz (by decide) (by decide) (by decide) (by decide) w'
              have hq5 : ∀ (zs : List Nat) (hz : Good zs) (w' : World), Calls Tryd.prog 187 #[.agg (zs.map word).toArray, .int .i64 0, .int .i64 5, .int .i64 10, .int .i64 15] w' fun e w2 => e = .returned (.agg ((quarterL zs 0 5 10 15).map word).toArray) ∧ Below w'.heap.size w' w2 := fun zs hz w' => rquarter_any zs 0 5 10 15 hz (by decide) (by decide) (by decide) (by decide) w'
              have hq6 : ∀ (zs : List Nat) (hz : Good zs) (w' : World), Calls Tryd.prog 187 #[.agg (zs.map word).toArray, .int .i64 1, .int .i64 6, .int .i64 11, .int .i64 12] w' fun e w2 => e = .returned (.agg ((quarterL zs 1 6 11 12).map word).toArray) ∧ Below w'.heap.size w' w2 := fun zs hz w' => rquarter_any zs 1 6 11 12 hz (by decide) (by decide) (by decide) (by decide) w'
              have hq7 : ∀ (zs : List Nat) (hz : Good zs) (w' : World), Calls Tryd.prog 187 #[.agg (zs.map word).toArray, .int .i64 2, .int .i64 7, .int .i64 8, .int .i64 13] w' fun e w2 => e = .returned (.agg ((quarterL zs 2 7 8 13).map word).toArray) ∧ Below w'.heap.size w' w2 := fun zs hz w' => rquarter_any zs 2 7 8 13 hz (by decide) (by decide) (by decide) (by decide) w'
              have hq8 : ∀ (zs : List Nat) (hz : Good zs) (w' : World), Calls Tryd.prog 187 #[.agg (zs.map word).toArray, .int .i64 3, .int .i64 4, .int .i64 9, .int .i64 14] w' fun e w2 => e = .returned (.agg ((quarterL zs 3 4 9 14).map word).toArray) ∧ Below w'.heap.size w' w2 := fun zs hz w' => rquarter_any zs 3 4 9 14 hz (by decide) (by decide) (by decide) (by decide) w'
              replace hq1 := Lib.hid hq1
              replace hq2 := Lib.hid hq2
              replace hq3 := Lib.hid hq3
              replace hq4 := Lib.hid hq4
              replace hq5 := Lib.hid hq5
              replace hq6 := Lib.hid hq6
              replace hq7 := Lib.hid hq7
              replace hq8 := Lib.hid hq8
              replace hT := Lib.hid hT
              replace hG := Lib.hid hG
              replace hys := Lib.hid hys
              have hi2 := Lib.hid hi
              clear hi h0
              go_wp2_with (first
                | (refine wpList_load_words rfl (.tmp 10) rfl X _ rfl hT.out.xs hG.out.1 ?_)
                | (go_at_call 187; (with_reducible refine (hq1.out _ hG.out _).mono ?_); rintro e w5 ⟨rfl, b5⟩; have hGo := Lib.hid hG.out.1; replace hT := Lib.hid (hT.out.below b5); replace hG := Lib.hid (hG.out.quarter 0 4 8 12); clear b5)
                | (go_at_call 187; (with_reducible refine (hq2.out _ hG.out _).mono ?_); rintro e w5 ⟨rfl, b5⟩; have hGo := Lib.hid hG.out.1; replace hT := Lib.hid (hT.out.below b5); replace hG := Lib.hid (hG.out.quarter 1 5 9 13); clear b5)
                | (go_at_call 187; (with_reducible refine (hq3.out _ hG.out _).mono ?_); rintro e w5 ⟨rfl, b5⟩; have hGo := Lib.hid hG.out.1; replace hT := Lib.hid (hT.out.below b5); replace hG := Lib.hid (hG.out.quarter 2 6 10 14); clear b5)
                | (go_at_call 187; (with_reducible refine (hq4.out _ hG.out _).mono ?_); rintro e w5 ⟨rfl, b5⟩; have hGo := Lib.hid hG.out.1; replace hT := Lib.hid (hT.out.below b5); replace hG := Lib.hid (hG.out.quarter 3 7 11 15); clear b5)
                | (go_at_call 187; (with_reducible refine (hq5.out _ hG.out _).mono ?_); rintro e w5 ⟨rfl, b5⟩; have hGo := Lib.hid hG.out.1; replace hT := Lib.hid (hT.out.below b5); replace hG := Lib.hid (hG.out.quarter 0 5 10 15); clear b5)
                | (go_at_call 187; (with_reducible refine (hq6.out _ hG.out _).mono ?_); rintro e w5 ⟨rfl, b5⟩; have hGo := Lib.hid hG.out.1; replace hT := Lib.hid (hT.out.below b5); replace hG := Lib.hid (hG.out.quarter 1 6 11 12); clear b5)
                | (go_at_call 187; (with_reducible refine (hq7.out _ hG.out _).mono ?_); rintro e w5 ⟨rfl, b5⟩; have hGo := Lib.hid hG.out.1; replace hT := Lib.hid (hT.out.below b5); replace hG := Lib.hid (hG.out.quarter 2 7 8 13); clear b5)
                | (go_at_call 187; (with_reducible refine (hq8.out _ hG.out _).mono ?_); rintro e w5 ⟨rfl, b5⟩; have hGo := Lib.hid hG.out.1; replace hT := Lib.hid (hT.out.below b5); replace hG := Lib.hid (hG.out.quarter 3 4 9 14); clear b5)
                | (refine wpList_store_words rfl (.tmp 10) (.tmp 46) rfl X _ rfl rfl hG.out.1 (hT.out.old hGo.out) ?_; intro w6 W6 K6; replace hT := Lib.hid (hT.out.store K6 W6); clear W6 K6 hGo)
                | (refine wpList_store_words rfl (.tmp 10) (.tmp 48) rfl X _ rfl rfl hG.out.1 (hT.out.old hGo.out) ?_; intro w6 W6 K6; replace hT := Lib.hid (hT.out.store K6 W6); clear W6 K6 hGo)
                | (refine wpList_store_words rfl (.tmp 10) (.tmp 50) rfl X _ rfl rfl hG.out.1 (hT.out.old hGo.out) ?_; intro w6 W6 K6; replace hT := Lib.hid (hT.out.store K6 W6); clear W6 K6 hGo)
                | (refine wpList_store_words rfl (.tmp 10) (.tmp 52) rfl X _ rfl rfl hG.out.1 (hT.out.old hGo.out) ?_; intro w6 W6 K6; replace hT := Lib.hid (hT.out.store K6 W6); clear W6 K6 hGo)
                | (refine wpList_store_words rfl (.tmp 10) (.tmp 54) rfl X _ rfl rfl hG.out.1 (hT.out.old hGo.out) ?_; intro w6 W6 K6; replace hT := Lib.hid (hT.out.store K6 W6); clear W6 K6 hGo)
                | (refine wpList_store_words rfl (.tmp 10) (.tmp 56) rfl X _ rfl rfl hG.out.1 (hT.out.old hGo.out) ?_; intro w6 W6 K6; replace hT := Lib.hid (hT.out.store K6 W6); clear W6 K6 hGo)
                | (refine wpList_store_words rfl (.tmp 10) (.tmp 58) rfl X _ rfl rfl hG.out.1 (hT.out.old hGo.out) ?_; intro w6 W6 K6; replace hT := Lib.hid (hT.out.store K6 W6); clear W6 K6 hGo)
                | (refine wpList_store_words rfl (.tmp 10) (.tmp 60) rfl X _ rfl rfl hG.out.1 (hT.out.old hGo.out) ?_; intro w6 W6 K6; replace hT := Lib.hid (hT.out.store K6 W6); clear W6 K6 hGo))
              go_roundg K
              case measure => omega
              case rel =>
                refine ⟨i + 1, by go_num, by have := hi2.out; omega, ?_⟩
                rw [rounds_succ, ← hys.out, round_step]
                exact hT.out
        · obtain ⟨K, rfl⟩ : ∃ K : Nat, gk = K + 1 := ⟨gk - 1, by omega⟩
          have i1 : (i : Int) < 3 := by omega
          have i0 : (0 : Int) ≤ (i : Int) := by omega
          have hw := fun w' => rword_any nonce (4 * i) w' (by omega) (by omega)
          have e4 : ((4 * i : Nat) : Int) = 4 * (i : Int) := by omega
          rw [e4] at hw
          obtain ⟨q, hq⟩ : ∃ q, q = wordAt nonce (4 * i) := ⟨_, rfl⟩
          rw [← hq] at hw
          have hl : ((nonced key nonce i).set 12 n).length = 16 := by simp [nonced_len]
          have hS : ∀ w1, Below wr.heap.size wr w1 → Words w1 w.heap.size 236 ((nonced key nonce i).set 12 n) := fun w1 b => hW.below b
          replace hW := Lib.hid hW
          replace hw := Lib.hid hw
          replace hS := Lib.hid hS
          replace hq := Lib.hid hq
          replace hl := Lib.hid hl
          go_wp2_with (go_at_call 186; (with_reducible refine (hw.out _).mono ?_); rintro e w1 ⟨rfl, b1⟩; have W1 := hS.out _ b1; have f1 := W1.free (13 + i); have c1 := W1.cell (i := 13 + i) (by rw [hl.out]; omega); replace W1 := Lib.hid W1)
          go_roundg K
          case measure => omega
          case rel =>
            refine ⟨i + 1, by go_num, by omega, ?_, (belowCont hB b1).setCell (by simp) _⟩
            have e := W1.out.put (13 + i) q
            show Words _ _ _ (((nonced key nonce i).set (13 + i) (wordAt nonce (4 * i))).set 12 n)
            rw [List.set_comm _ _ (by omega), ← hq.out]; exact e
    · obtain ⟨K, rfl⟩ : ∃ K : Nat, gk = K + 1 := ⟨gk - 1, by omega⟩
      have i1 : (i : Int) < 8 := by omega
      have i0 : (0 : Int) ≤ (i : Int) := by omega
      have hw := fun w' => rword_any key (4 * i) w' (by omega) (by omega)
      have e4 : ((4 * i : Nat) : Int) = 4 * (i : Int) := by omega
      rw [e4] at hw
      obtain ⟨q, hq⟩ : ∃ q, q = wordAt key (4 * i) := ⟨_, rfl⟩
      rw [← hq] at hw
      have hl := keyed_len key i
      have hS : ∀ w1, Below wr.heap.size wr w1 → Words w1 w.heap.size 236 (keyed key i) := fun w1 b => hW.below b
      replace hW := Lib.hid hW
      replace hw := Lib.hid hw
      replace hS := Lib.hid hS
      replace hq := Lib.hid hq
      go_wp2_with (go_at_call 186; (with_reducible refine (hw.out _).mono ?_); rintro e w1 ⟨rfl, b1⟩; have W1 := hS.out _ b1; have f1 := W1.free (4 + i); have c1 := W1.cell (i := 4 + i) (by omega); replace W1 := Lib.hid W1)
      go_roundg K
      case measure => omega
      case rel =>
        refine ⟨i + 1, by go_num, by omega, ?_, (belowCont hB b1).setCell (by simp) _⟩
        have e := W1.out.put (4 + i) q
        show Words _ _ _ ((keyed key i).set (4 + i) (wordAt key (4 * i)))
        rw [← hq.out]; exact e
end Go.Proofs.YtdhboldmffiklabDoor.chacha
