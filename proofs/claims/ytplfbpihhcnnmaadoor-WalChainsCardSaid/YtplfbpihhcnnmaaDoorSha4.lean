/- SHA-256 (package sha): words as bytes. No condition. -/
import Derived.Test.YtplfbpihhcnnmaaDoorSha
namespace Go.Proofs.YtplfbpihhcnnmaaDoor.sha
open Go.RowKit
attribute [local go_sem ↓] Go.wp_at_zero Go.wp_at_succ
set_option linter.unusedVariables false
set_option maxRecDepth 100000

theorem eight8b : (Tryd.prog.info? 112).map (·.size) = some 8 := by kernel_rfl
/-- the bytes of so many words, the highest first, in a row of 32 -/
def outW (ns : List Nat) : Nat → List Nat
  | 0 => List.replicate 32 0
  | k + 1 => ((((outW ns k).set (4 * k) (ns.getD k 0 / 16777216 % 256)).set (4 * k + 1) (ns.getD k 0 / 65536 % 256)).set (4 * k + 2) (ns.getD k 0 / 256 % 256)).set (4 * k + 3) (ns.getD k 0 % 256)
theorem outW_len (ns : List Nat) (k : Nat) : (outW ns k).length = 32 := by
  induction k with
  | zero => simp [outW]
  | succ k ih => simp [outW, ih]
theorem outW_lt (ns : List Nat) (k : Nat) : ∀ x ∈ outW ns k, x < 256 := by
  induction k with
  | zero => intro x hx; simp [outW] at hx; omega
  | succ k ih =>
    intro x hx
    rcases List.mem_or_eq_of_mem_set hx with hx | rfl
    · rcases List.mem_or_eq_of_mem_set hx with hx | rfl
      · rcases List.mem_or_eq_of_mem_set hx with hx | rfl
        · rcases List.mem_or_eq_of_mem_set hx with hx | rfl
          · exact ih x hx
          · exact Nat.mod_lt _ (by decide)
        · exact Nat.mod_lt _ (by decide)
      · exact Nat.mod_lt _ (by decide)
    · exact Nat.mod_lt _ (by decide)
/-- the same, one behind the other -/
def outB (ns : List Nat) : Nat → List UInt8
  | 0 => []
  | k + 1 => outB ns k ++ [UInt8.ofNat (ns.getD k 0 / 16777216 % 256), UInt8.ofNat (ns.getD k 0 / 65536 % 256), UInt8.ofNat (ns.getD k 0 / 256 % 256), UInt8.ofNat (ns.getD k 0 % 256)]
theorem outB_len (ns : List Nat) (k : Nat) : (outB ns k).length = 4 * k := by
  induction k with
  | zero => rfl
  | succ k ih => simp [outB, ih]; omega
theorem set4 (A B : List Nat) (n : Nat) (hA : A.length = n) (x y z u a b c d : Nat) : ((((A ++ x :: y :: z :: u :: B).set n a).set (n + 1) b).set (n + 2) c).set (n + 3) d = A ++ a :: b :: c :: d :: B := by
  subst hA
  simp [List.set_append]
theorem outW_form (ns : List Nat) : ∀ k, k ≤ 8 → (∃ A : List Nat, outW ns k = A ++ List.replicate (32 - 4 * k) 0 ∧ A.length = 4 * k ∧ A.map UInt8.ofNat = outB ns k)
  | 0, _ => ⟨[], rfl, rfl, rfl⟩
  | k + 1, h => by
    obtain ⟨A, h1, h2, h3⟩ := outW_form ns k (by omega)
    refine ⟨A ++ [ns.getD k 0 / 16777216 % 256, ns.getD k 0 / 65536 % 256, ns.getD k 0 / 256 % 256, ns.getD k 0 % 256], ?_, ?_, ?_⟩
    · show ((((outW ns k).set (4 * k) _).set (4 * k + 1) _).set (4 * k + 2) _).set (4 * k + 3) _ = _
      rw [h1, show 32 - 4 * k = (32 - 4 * (k + 1)) + 1 + 1 + 1 + 1 by omega, List.replicate_succ, List.replicate_succ, List.replicate_succ, List.replicate_succ, set4 A _ (4 * k) h2]
      simp
    · simp [h2]; omega
    · rw [List.map_append, h3]; rfl
theorem outW_outB (ns : List Nat) : (outW ns 8).map UInt8.ofNat = outB ns 8 := by
  obtain ⟨A, h1, h2, h3⟩ := outW_form ns 8 (by omega)
  rw [h1]; simpa using h3
theorem zeroBytes : ((List.replicate 32 0).map byteN).toArray = #[Value.int .u8 0, .int .u8 0, .int .u8 0, .int .u8 0, .int .u8 0, .int .u8 0, .int .u8 0, .int .u8 0, .int .u8 0, .int .u8 0, .int .u8 0, .int .u8 0, .int .u8 0, .int .u8 0, .int .u8 0, .int .u8 0, .int .u8 0, .int .u8 0, .int .u8 0, .int .u8 0, .int .u8 0, .int .u8 0, .int .u8 0, .int .u8 0, .int .u8 0, .int .u8 0, .int .u8 0, .int .u8 0, .int .u8 0, .int .u8 0, .int .u8 0, .int .u8 0] := rfl
theorem word_at (hs : List Nat) (i : Nat) (h : i < ((hs.map word).toArray).size) : ((hs.map word).toArray)[i]'h = Value.int .u32 ((hs.getD i 0 : Nat) : Int) := by
  have h2 : i < hs.length := by simpa using h
  simp [word, List.getD, List.getElem?_eq_getElem h2]
theorem run_index_eight (cs : Array Value) (i : Nat) (v : Value) (hi : i < 8) (hv : cs[i]? = some v) (w : World) : (Instr.index 112 (.agg cs) (.int .i64 (i : Int))).run Tryd.prog w = .ok v w := by
  have h1 : (0 : Int) ≤ (i : Int) ∧ (i : Int) < ((8 : Nat) : Int) := by omega
  simp [Instr.index, run_underlying Tryd.underlying112, asIntOf, h1, go_sem]
  rw [if_pos hi, hv]
  rfl
set_option maxRecDepth 100000 in
set_option maxHeartbeats 4000000 in
theorem written_any (hs : List Nat) (h8 : hs.length = 8) (hsm : Small hs) (w : World) :
    Calls Tryd.prog 153 #[.agg (hs.map word).toArray] w fun e w' => e = .returned (.string (str (outB hs 8))) ∧ Below w.heap.size w w' := by
  obtain ⟨cs, hcs⟩ : ∃ cs, cs = (hs.map word).toArray := ⟨_, rfl⟩
  have hcl : cs.size = 8 := by rw [hcs]; simp [h8]
  have hat : ∀ i (h : i < cs.size), cs[i]'h = Value.int .u32 ((hs.getD i 0 : Nat) : Int) := by subst hcs; exact fun i h => word_at hs i h
  rw [← hcs]
  replace hcs := Lib.hid hcs
  replace hsm := Lib.hid hsm
  go_enter Tryd.func153, Tryd.ntmps153
  go_wp2_with (refine wpList_load_words eight8b Tryd.underlying112 rfl (.tmp 1) rfl w.heap.size hs rfl (by unfold Words; rw [← hcs.out]; exact boxed2 _ _ _ _) h8 ?_)
  rw [← hcs.out]
  have hB0 : BytesT ((w.alloc (.cells cs 112)).alloc (.cells #[Value.int .u8 0, .int .u8 0, .int .u8 0, .int .u8 0, .int .u8 0, .int .u8 0, .int .u8 0, .int .u8 0, .int .u8 0, .int .u8 0, .int .u8 0, .int .u8 0, .int .u8 0, .int .u8 0, .int .u8 0, .int .u8 0, .int .u8 0, .int .u8 0, .int .u8 0, .int .u8 0, .int .u8 0, .int .u8 0, .int .u8 0, .int .u8 0, .int .u8 0, .int .u8 0, .int .u8 0, .int .u8 0, .int .u8 0, .int .u8 0, .int .u8 0, .int .u8 0] 194)) (w.heap.size + 1) 194 (outW hs 0) := by
    show (_ : World).heap[_]? = some (Obj.cells ((List.replicate 32 0).map byteN).toArray 194 (0, 0))
    rw [zeroBytes]; exact boxed2b _ _ _ _
  go_loopg [7] 8 (fun gn s7 wr => ∃ i : Nat, s7 = .int .i64 (i : Int) ∧ i + gn = 8 ∧ BytesT wr (w.heap.size + 1) 194 (outW hs i) ∧ Below w.heap.size w wr)
  case atStart => exact ⟨0, rfl, rfl, hB0, by go_grown⟩
  case round =>
    clear hB0
    obtain ⟨i, rfl, hi, hO, hB⟩ := hrel
    by_cases h0 : gk = 0
    · obtain rfl : i = 8 := by omega
      have ht := hO.text (outW_lt hs 8) 32
      rw [outW_len, outW_outB] at ht
      replace hO := Lib.hid hO
      clear hi h0 hat
      go_wp2
      go_ret
      exact ⟨rfl, hB⟩
    · obtain ⟨K, rfl⟩ : ∃ K : Nat, gk = K + 1 := ⟨gk - 1, by omega⟩
      have i1 : (i : Int) < 8 := by omega
      have i0 : (0 : Int) ≤ (i : Int) := by omega
      obtain ⟨n, hn⟩ : ∃ n, n = hs.getD i 0 := ⟨_, rfl⟩
      have hnl : n < 4294967296 := by rw [hn]; exact hsm.out i
      have hati : ∀ h, cs[i]'h = Value.int .u32 (n : Int) := fun h => by rw [hn]; exact hat i h
      have hrun := fun w' => run_index_eight cs i (Value.int .u32 (n : Int)) (by omega) (by rw [Array.getElem?_eq_getElem (by omega), hati]) w'
      clear hat hati
      obtain ⟨v0, hv0⟩ : ∃ v, v = n / 16777216 % 256 := ⟨_, rfl⟩
      obtain ⟨v1, hv1⟩ : ∃ v, v = n / 65536 % 256 := ⟨_, rfl⟩
      obtain ⟨v2, hv2⟩ : ∃ v, v = n / 256 % 256 := ⟨_, rfl⟩
      obtain ⟨v3, hv3⟩ : ∃ v, v = n % 256 := ⟨_, rfl⟩
      have e0 : (n : Int) / 16777216 % 256 = (v0 : Int) := by omega
      have e1 : (n : Int) / 65536 % 256 = (v1 : Int) := by omega
      have e2 : (n : Int) / 256 % 256 = (v2 : Int) := by omega
      have e3 : (n : Int) % 256 = (v3 : Int) := by omega
      obtain ⟨m, hm⟩ : ∃ m : Nat, m = 4 * i := ⟨_, rfl⟩
      have hm4 : 4 * (i : Int) = (m : Int) := by omega
      have z0 : (0 : Int) ≤ (m : Int) := by omega
      have z1 : (0 : Int) ≤ (m : Int) + 1 := by omega
      have z2 : (0 : Int) ≤ (m : Int) + 2 := by omega
      have z3 : (0 : Int) ≤ (m : Int) + 3 := by omega
      have l0 : (m : Int) < 32 := by omega
      have l1 : (m : Int) + 1 < 32 := by omega
      have l2 : (m : Int) + 2 < 32 := by omega
      have l3 : (m : Int) + 3 < 32 := by omega
      have hL := outW_len hs i
      obtain ⟨l, hl⟩ : ∃ l, l = outW hs i := ⟨_, rfl⟩
      rw [← hl] at hO hL
      have c0 := hO.cell (i := m) (by omega)
      have f0 := hO.free m
      have B1 := hO.put m v0
      have c1 := B1.cell (i := m + 1) (by simp; omega)
      have f1 := B1.free (m + 1)
      have B2 := B1.put (m + 1) v1
      have c2 := B2.cell (i := m + 2) (by simp; omega)
      have f2 := B2.free (m + 2)
      have B3 := B2.put (m + 2) v2
      have c3 := B3.cell (i := m + 3) (by simp; omega)
      have f3 := B3.free (m + 3)
      have B4 := B3.put (m + 3) v3
      have hnext : outW hs (i + 1) = (((l.set m v0).set (m + 1) v1).set (m + 2) v2).set (m + 3) v3 := by
        show ((((outW hs i).set (4 * i) (hs.getD i 0 / 16777216 % 256)).set (4 * i + 1) (hs.getD i 0 / 65536 % 256)).set (4 * i + 2) (hs.getD i 0 / 256 % 256)).set (4 * i + 3) (hs.getD i 0 % 256) = _
        rw [← hn, ← hm, ← hl, hv0, hv1, hv2, hv3]
      rw [← hnext] at B4
      have hi2 : i + (K + 1) = 8 := hi
      replace hi2 := Lib.hid hi2
      replace B4 := Lib.hid B4
      clear B1 B2 B3 hO hnext hl hL hv0 hv1 hv2 hv3 hn hnl hi h0
      replace hm := Lib.hid hm
      go_wp2
      go_roundg K
      case measure => omega
      case rel =>
        refine ⟨i + 1, by go_num, by have := hi2.out; omega, B4.out, ?_⟩
        exact (((hB.setCell (p := ⟨w.heap.size + 1, m, none⟩) (by simp) _).setCell (p := ⟨w.heap.size + 1, m + 1, none⟩) (by simp) _).setCell (p := ⟨w.heap.size + 1, m + 2, none⟩) (by simp) _).setCell (p := ⟨w.heap.size + 1, m + 3, none⟩) (by simp) _
end Go.Proofs.YtplfbpihhcnnmaaDoor.sha
