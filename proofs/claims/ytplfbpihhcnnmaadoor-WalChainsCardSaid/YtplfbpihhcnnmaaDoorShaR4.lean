/- The document's own SHA-256 (package lodestoneref01): the sum of bytes; it is the code's. No condition. -/
import Derived.Test.YtplfbpihhcnnmaaDoorShaR3
import Derived.Test.YtplfbpihhcnnmaaDoorShaKnown
namespace Go.Proofs.YtplfbpihhcnnmaaDoor.sha
open Go.RowKit
attribute [local go_sem ↓] Go.wp_at_zero Go.wp_at_succ
attribute [local go_sem] str_size str_append
set_option linter.unusedVariables false
set_option maxRecDepth 100000

theorem salts_len : salts.length = 64 := rfl
theorem salts_small : Small salts := by
  intro i
  rcases Nat.lt_or_ge i 64 with h | h
  · have : ∀ i : Fin 64, salts.getD i.1 0 < 4294967296 := by decide +kernel
    exact this ⟨i, h⟩
  · rw [List.getD_eq_getElem?_getD, List.getElem?_eq_none h]; decide
theorem known_any (w : World) : Calls Tryd.prog 79 #[] w fun e w' => e = .returned (.slice (some ⟨w.heap.size, 0, none⟩) 64 64) ∧ Words w' w.heap.size 111 salts ∧ Below w.heap.size w w' := by
  go_enter Tryd.func79, Tryd.ntmps79
  go_wp2
  go_ret
  exact ⟨rfl, heap_alloc_new w _, by go_grown⟩

theorem hashL_front (ss h : List Nat) (A B : List UInt8) (m : Nat) (hA : A.length = 64 * m) : ∀ k, k ≤ m → hashL ss h (A ++ B) k = hashL ss h A k
  | 0, _ => rfl
  | k + 1, hk => by
    show mixedL ss (hashL ss h (A ++ B) k) _ = mixedL ss (hashL ss h A k) _
    rw [hashL_front ss h A B m hA k (by omega), List.drop_append_of_le_length (by omega), List.take_append_of_le_length (by rw [List.length_drop]; omega)]
theorem hashL_back (ss h : List Nat) (A B : List UInt8) (m : Nat) (hA : A.length = 64 * m) : ∀ k, hashL ss h (A ++ B) (m + k) = hashL ss (hashL ss h A m) B k
  | 0 => hashL_front ss h A B m hA m (Nat.le_refl _)
  | k + 1 => by
    show mixedL ss (hashL ss h (A ++ B) (m + k)) (str (((A ++ B).drop (64 * (m + k))).take 64)) = mixedL ss (hashL ss (hashL ss h A m) B k) (str ((B.drop (64 * k)).take 64))
    rw [hashL_back ss h A B m hA k, List.drop_append, List.drop_eq_nil_of_le (by omega), List.nil_append, show 64 * (m + k) - A.length = 64 * k by omega]
theorem hashL_take (ss h : List Nat) (l : List UInt8) (m : Nat) (hm : 64 * m ≤ l.length) : hashL ss h l m = hashL ss h (l.take (64 * m)) m := by
  have := hashL_front ss h (l.take (64 * m)) (l.drop (64 * m)) m (by rw [List.length_take]; omega) m (Nat.le_refl _)
  rwa [List.take_append_drop] at this
theorem padded_split (l : List UInt8) : paddedL l = l.take (64 * (l.length / 64)) ++ filledL (restL l) l.length := by
  have hr : (restL l).length = l.length % 64 := by rw [restL, List.length_drop]; omega
  have hz : padZ l.length = lastZ (restL l) - (restL l).length - 9 := by
    rw [hr]; unfold padZ lastZ; rw [hr]; split <;> omega
  unfold paddedL filledL
  rw [hz]
  have e : l = l.take (64 * (l.length / 64)) ++ restL l := (List.take_append_drop _ _).symm
  generalize be8 (l.length * 8 % 18446744073709551616) = b
  generalize List.replicate (lastZ (restL l) - (restL l).length - 9) (0 : UInt8) = z
  generalize l.take (64 * (l.length / 64)) = A at *
  generalize restL l = R at *
  rw [e]; simp
theorem padded_len (l : List UInt8) : (paddedL l).length = 64 * (l.length / 64 + lastZ (restL l) / 64) := by
  have hr : (restL l).length = l.length % 64 := by rw [restL, List.length_drop]; omega
  rw [padded_split, List.length_append, filledL_len _ _ (by omega), List.length_take]
  unfold lastZ; split <;> omega
theorem sha_padded (ss : List Nat) (l : List UInt8) : outB (hashL ss H0 (paddedL l) (l.length / 64 + lastZ (restL l) / 64)) 8 = shaB ss l := by
  rw [padded_split, hashL_back ss H0 _ _ (l.length / 64) (by rw [List.length_take]; omega), ← hashL_take ss H0 l (l.length / 64) (by omega)]
  rfl
/-- 'string([]byte{a, b, c, d})' -/
theorem conv_four (W : World) (q : Nat) (n0 n1 n2 n3 : Int) (h : W.heap[q]? = some (.cells #[.int .u8 n0, .int .u8 n1, .int .u8 n2, .int .u8 n3] 5 (0, 0))) : (convert 79 9 (.slice (some ⟨q, 0, none⟩) 4 4)).run Tryd.prog W = .ok (.string (str [UInt8.ofNat n0.toNat, UInt8.ofNat n1.toNat, UInt8.ofNat n2.toNat, UInt8.ofNat n3.toNat])) W := by
  rw [run_convert_bytes_arg (P := Tryd.prog) W 79 5 Tryd.underlying79 Tryd.underlying5 q 0 4 4 [n0, n1, n2, n3] rfl (fun i hi => by
    rw [cell_of_row _ _ _ _ _ _ h]
    have : i = 0 ∨ i = 1 ∨ i = 2 ∨ i = 3 := by omega
    rcases this with rfl | rfl | rfl | rfl <;> rfl) 9 Tryd.underlying9]
  rfl
/-- what stands while blocks are mixed: the words, the salts -/
def RS (w wr : World) (B G : Nat) (hs ss : List Nat) : Prop := Words wr B 112 hs ∧ Words wr G 111 ss ∧ G < B ∧ w.heap.size ≤ G ∧ Below w.heap.size w wr
theorem RS.below {w wr w1 : World} {B G : Nat} {hs ss : List Nat} (h : RS w wr B G hs ss) (k : Below wr.heap.size wr w1) : RS w w1 B G hs ss :=
  ⟨h.1.below k, h.2.1.below k, h.2.2.1, h.2.2.2.1, belowCont h.2.2.2.2 k⟩
theorem RS.salts {w wr : World} {B G : Nat} {hs ss : List Nat} (h : RS w wr B G hs ss) : Words wr G 111 ss := h.2.1
theorem RS.store {w wr w1 : World} {B G : Nat} {hs zs ss : List Nat} (h : RS w wr B G hs ss) (k : Keeps [B] wr w1) (hw : Words w1 B 112 zs) : RS w w1 B G zs ss :=
  ⟨hw, h.2.1.keep k (by have := h.2.2.1; simp; omega), h.2.2.1, h.2.2.2.1, h.2.2.2.2.trans (k.below h.2.2.2.2.size (by have := h.2.2.1; have := h.2.2.2.1; simp; omega))⟩
set_option maxRecDepth 100000 in
set_option maxHeartbeats 8000000 in
theorem rsum_any (l : List UInt8) (hl : l.length ≤ 1000000000) (w : World) :
    Calls Tryd.prog 30 #[.string (str l)] w fun e w' => e = .returned (.string (str (shaB salts l))) ∧ Below w.heap.size w w' := by
  obtain ⟨ss, hss0⟩ : ∃ ss, ss = salts := ⟨_, rfl⟩
  have hsl : ss.length = 64 := by rw [hss0]; rfl
  have hss : Small ss := by rw [hss0]; exact salts_small
  have hkn := known_any
  rw [← hss0] at hkn ⊢
  have hpa := fun w' => padded_any l hl w'
  obtain ⟨P, hP⟩ : ∃ P, P = paddedL l := ⟨_, rfl⟩
  obtain ⟨nz, hnz⟩ : ∃ n, n = l.length / 64 + lastZ (restL l) / 64 := ⟨_, rfl⟩
  have hPl : P.length = 64 * nz := by rw [hP, hnz]; exact padded_len l
  have hfin : outB (hashL ss H0 P nz) 8 = shaB ss l := by rw [hP, hnz]; exact sha_padded ss l
  have hnz2 : nz ≤ 20000000 := by rw [hnz]; unfold lastZ; split <;> omega
  rw [← hP] at hpa
  obtain ⟨T0, hT0⟩ : ∃ T, T = str P := ⟨_, rfl⟩
  have hTs : T0.size = 64 * nz := by rw [hT0, str_size, hPl]
  have hextR : ∀ a b, T0.extract a b = str ((P.drop a).take (b - a)) := fun a b => by rw [hT0]; exact cut_extract P a b
  rw [← hT0] at hpa
  clear hT0 hP hnz hss0
  replace hpa := Lib.hid hpa; replace hextR := Lib.hid hextR; replace hss := Lib.hid hss; replace hl := Lib.hid hl; replace hPl := Lib.hid hPl; replace hnz2 := Lib.hid hnz2
  replace hfin := Lib.hid hfin; replace hsl := Lib.hid hsl; replace hkn := Lib.hid hkn
  go_enter Tryd.func30, Tryd.ntmps30
  go_wp2_with (first
    | (go_at_call 78; (with_reducible refine (hpa.out _).mono ?_); rintro e w1 ⟨rfl, b1⟩; replace b1 := Lib.hid b1)
    | (go_at_call 79; (with_reducible refine (hkn.out _).mono ?_); rintro e w2 ⟨rfl, hG, b2⟩; have hlt := block_lt hG; replace hG := Lib.hid hG; replace b2 := Lib.hid b2; replace hlt := Lib.hid hlt)
    | (refine wpList_store_words eight8 rfl (.tmp 4) (.tmp 12) rfl w2.heap.size H0 rfl rfl rfl ⟨_, heap_alloc_new _ _, rfl⟩ ?_; intro w3 W3 K3; replace K3 := Lib.hid K3; replace W3 := Lib.hid W3))
  obtain ⟨G, hGG⟩ : ∃ G, G = w1.heap.size := ⟨_, rfl⟩
  obtain ⟨B, hBB⟩ : ∃ B, B = w2.heap.size := ⟨_, rfl⟩
  rw [← hGG] at hG hlt ⊢
  rw [← hBB] at hlt W3 K3 ⊢
  have hK3 : Keeps [B] w2 w3 := by
    have h := K3.out
    have : B = w2.heap.size := hBB
    exact ((Keeps.refl [B] w2).alloc _).trans h
  have hwG : w.heap.size ≤ G := by rw [hGG]; exact b1.out.size
  have hR3 : RS w w3 B G H0 ss := ⟨W3.out, hG.out.keep hK3 (by have := hlt.out; simp; omega), hlt.out, hwG, (belowCont b1.out b2.out).trans (hK3.below (belowCont b1.out b2.out).size (by have := hlt.out; simp; omega))⟩
  clear W3 K3 hK3 hG hlt hGG hBB b1 b2 hwG
  replace hR3 := Lib.hid hR3
  go_loopg [6] nz (fun gn s6 wr => ∃ k : Nat, s6 = .int .i64 (64 * (k : Int)) ∧ k + gn = nz ∧ RS w wr B G (hashL ss H0 P k) ss)
  case atStart => exact ⟨0, rfl, by omega, hR3.out⟩
  case round =>
    clear hR3
    obtain ⟨j, rfl, hj, hM⟩ := hrel
    by_cases h0 : gk = 0
    · obtain rfl : j = nz := by omega
      have hlt2 : ¬ (64 * (j : Int) < 64 * (j : Int)) := by omega
      have hgj := (hashL_good ss H0_good P j)
      obtain ⟨fs, hfs⟩ : ∃ ys, ys = hashL ss H0 P j := ⟨_, rfl⟩
      have hfin2 := hfin.out
      rw [← hfs] at hM hgj hfin2
      clear hj h0 hfs
      replace hfin2 := Lib.hid hfin2
      replace hM := Lib.hid hM
      replace hgj := Lib.hid hgj
      go_wp2
      go_loopg [7, 8] 8 (fun gn s7 s8 wr => ∃ i : Nat, s7 = .string (str (outB fs i)) ∧ s8 = .int .i64 (i : Int) ∧ i + gn = 8 ∧ RS w wr B G fs ss)
      case atStart => exact ⟨0, rfl, rfl, rfl, hM.out⟩
      case round =>
        clear hM
        obtain ⟨i, rfl, rfl, hi, hM⟩ := hrel
        by_cases h0 : gk = 0
        · obtain rfl : i = 8 := by omega
          rw [hfin2.out]
          replace hM := Lib.hid hM
          clear hi h0
          go_wp2
          go_ret
          exact ⟨rfl, hM.out.2.2.2.2⟩
        · obtain ⟨K, rfl⟩ : ∃ K : Nat, gk = K + 1 := ⟨gk - 1, by omega⟩
          have i1 : (i : Int) < 8 := by omega
          have i0 : (0 : Int) ≤ (i : Int) := by omega
          have hc := hM.1.cell (i := i) (by rw [hgj.out.1]; omega)
          obtain ⟨z, hz⟩ : ∃ z, z = fs.getD i 0 := ⟨_, rfl⟩
          have hzl : z < 4294967296 := by rw [hz]; exact hgj.out.2 i
          rw [← hz] at hc
          obtain ⟨v0, hv0⟩ : ∃ v : Nat, v = z / 16777216 % 256 := ⟨_, rfl⟩
          obtain ⟨v1, hv1⟩ : ∃ v : Nat, v = z / 65536 % 256 := ⟨_, rfl⟩
          obtain ⟨v2, hv2⟩ : ∃ v : Nat, v = z / 256 % 256 := ⟨_, rfl⟩
          obtain ⟨v3, hv3⟩ : ∃ v : Nat, v = z % 256 := ⟨_, rfl⟩
          have ev0 : (z : Int) / 16777216 = (v0 : Int) := by omega
          have ew0 : (v0 : Int) % 256 = (v0 : Int) := by omega
          have ex0 : (v0 : Int) % 4294967296 = (v0 : Int) := by omega
          have ev1 : (z : Int) / 65536 % 256 = (v1 : Int) := by omega
          have ey1 : (z : Int) / 65536 % 4294967296 = (z : Int) / 65536 := by omega
          have ey2 : (z : Int) / 256 % 4294967296 = (z : Int) / 256 := by omega
          have ev2 : (z : Int) / 256 % 256 = (v2 : Int) := by omega
          have ev3 : (z : Int) % 256 = (v3 : Int) := by omega
          have eu0 : IntKind.u8.wrap (v0 : Int) = v0 := IntWalk.u8_in _ (by omega)
          have eu1 : IntKind.u8.wrap (v1 : Int) = v1 := IntWalk.u8_in _ (by omega)
          have eu2 : IntKind.u8.wrap (v2 : Int) = v2 := IntWalk.u8_in _ (by omega)
          have eu3 : IntKind.u8.wrap (v3 : Int) = v3 := IntWalk.u8_in _ (by omega)
          have hnext : outB fs (i + 1) = outB fs i ++ [UInt8.ofNat v0, UInt8.ofNat v1, UInt8.ofNat v2, UInt8.ofNat v3] := by
            rw [hv0, hv1, hv2, hv3, hz]; rfl
          have hlen : (outB fs i).length = 4 * i := outB_len fs i
          have hroom : ¬ 9223372036854775807 < 4 * i + 4 := by omega
          have hw4 := conv_four (wr.alloc (.cells #[.int .u8 (v0 : Int), .int .u8 (v1 : Int), .int .u8 (v2 : Int), .int .u8 (v3 : Int)] 5)) wr.heap.size (v0 : Int) (v1 : Int) (v2 : Int) (v3 : Int) (heap_alloc_new wr _)
          have hi2 := Lib.hid hi
          replace hnext := Lib.hid hnext
          replace hM := Lib.hid hM
          clear hi h0 hv0 hv1 hv2 hv3 hz hzl
          go_wp2
          go_roundg K
          case measure => omega
          case rel => exact ⟨i + 1, by rw [hnext.out] <;> first | rfl | simp, by go_num, by have := hi2.out; omega, hM.out.below (by go_grown)⟩
    · obtain ⟨K, rfl⟩ : ∃ K : Nat, gk = K + 1 := ⟨gk - 1, by omega⟩
      have k0 : (0 : Int) ≤ 64 * (j : Int) := by omega
      have k1 : 64 * (j : Int) < 64 * (nz : Int) := by omega
      have k2 : 64 * (j : Int) + 64 ≤ 64 * (nz : Int) := by omega
      have k3 : 64 * (j : Int) ≤ 64 * (j : Int) + 64 := by omega
      have k5 : IntKind.i64.wrap (64 * (j : Int) + 64) = 64 * (j : Int) + 64 := by have := hnz2.out; rw [IntKind.wrap_i64]; omega
      obtain ⟨blk, hblk⟩ : ∃ b, b = str ((P.drop (64 * j)).take 64) := ⟨_, rfl⟩
      have hbs : blk.size = 64 := by rw [hblk, str_size, List.length_take, List.length_drop]; have := hPl.out; omega
      have hcut : T0.extract (64 * j) (64 * j + 64) = blk := by rw [hextR.out, hblk, show 64 * j + 64 - 64 * j = 64 by omega]
      have hgk := hashL_good ss H0_good P j
      obtain ⟨ys, hys⟩ : ∃ ys, ys = hashL ss H0 P j := ⟨_, rfl⟩
      have hnext : hashL ss H0 P (j + 1) = mixedL ss ys blk := by rw [hys, hblk]; rfl
      rw [← hys] at hgk hM
      have hmix := fun w' hw => rwords_any ss ys blk hgk.1 hgk.2 hbs hsl.out hss.out G w' hw
      rw [← hnext] at hmix
      obtain ⟨zs, hzs⟩ : ∃ zs, zs = hashL ss H0 P (j + 1) := ⟨_, rfl⟩
      have hgz := (hashL_good ss H0_good P (j + 1)).1
      rw [← hzs] at hmix hgz
      have hlen := hgk.1
      have hk2 := Lib.hid hj
      clear hgk hnext hys hblk hj h0
      replace hzs := Lib.hid hzs; replace hmix := Lib.hid hmix; replace hlen := Lib.hid hlen; replace hgz := Lib.hid hgz; replace hbs := Lib.hid hbs
      replace hM := Lib.hid hM
      go_upto_region 5 with fail
      refine wp_region_still_tail 7 (by kernel_rfl) (by kernel_rfl) ?_
      simp only [List.take_succ_cons, List.take_zero, List.drop_succ_cons, List.drop_zero]
      refine still_load_words eight8 Tryd.underlying112 rfl (.tmp 4) rfl B ys rfl hM.out.1 hlen.out ?_
      repeat still_step
      try refine wpStill_nil ?_
      change wpList _ _ _ _ _ wr.drew
      have hM2 : RS w wr.drew B G ys ss := ⟨hM.out.1, hM.out.2.1, hM.out.2.2.1, hM.out.2.2.2.1, hM.out.2.2.2.2.drew⟩
      generalize wr.drew = wd at *
      replace hM2 := Lib.hid hM2
      clear hM
      go_wp2_with (first
        | (go_at_call 80; (try rw [hcut]); (with_reducible refine (hmix.out _ hM2.out.salts).mono ?_); rintro e w4 ⟨rfl, b4⟩; replace hM2 := Lib.hid (hM2.out.below b4))
        | (refine wpList_store_words eight8 rfl (.tmp 4) (.tmp 27) rfl B zs rfl rfl hgz.out ⟨_, hM2.out.1, by simp [hlen.out]⟩ ?_; intro w5 W5 K5; replace hM2 := Lib.hid (hM2.out.store K5 W5); clear K5 W5))
      go_roundg K
      case measure => omega
      case rel => exact ⟨j + 1, by rw [show 64 * (j : Int) + 64 = 64 * ((j + 1 : Nat) : Int) by omega], by have := hk2.out; omega, by rw [← hzs.out]; exact hM2.out⟩
end Go.Proofs.YtplfbpihhcnnmaaDoor.sha
