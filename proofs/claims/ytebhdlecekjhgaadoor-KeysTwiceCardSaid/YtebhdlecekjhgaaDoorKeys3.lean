/- The same epoch has the same keys; what they are expanded of is the tag of the master key: the law. The table of salts is a premise. No other condition. -/
import Derived.Test.YtebhdlecekjhgaaDoorKeys
import Derived.Test.YtebhdlecekjhgaaDoorBox
import Derived.Deep.RegionHeld3
import Derived.BigRegion
import Derived.Laws.StructEq
namespace Go.Proofs.YtebhdlecekjhgaaDoor.sha
open Go.RowKit
attribute [local go_sem ↓] Go.wp_at_zero Go.wp_at_succ
attribute [local go_sem] str_size str_append
set_option linter.unusedVariables false
set_option maxRecDepth 100000

theorem allK_two (k p : List UInt8) : allK k p 2 = lastK k p 1 ++ lastK k p 2 := by rw [allK, allK, allK, List.nil_append]
theorem lastK_one (k p : List UInt8) : lastK k p 1 = tagL k (p ++ [1]) := by rw [lastK, lastK]; simp
theorem beL_four (n : Nat) : high.beL 4 n = [UInt8.ofNat (n / 16777216 % 256), UInt8.ofNat (n / 65536 % 256), UInt8.ofNat (n / 256 % 256), UInt8.ofNat (n % 256)] := by
  have hr : List.range 4 = [0, 1, 2, 3] := rfl
  unfold high.beL
  rw [hr]
  simp
theorem keyT_tag (m : List UInt8) (n : Nat) : keyT m n = tagL (tagL saltL m) (purposeL n ++ [1]) := by
  unfold keyT keysL
  generalize tagL saltL m = E
  generalize purposeL n = P
  rw [allK_two, lastK_one, List.take_take, List.take_append_of_le_length (by rw [tagL_len]; decide), List.take_of_length_le (by rw [tagL_len]; decide)]
/-- 'string([]byte{a, b, c, d, e})' -/
theorem conv_five (W : World) (q : Nat) (n0 n1 n2 n3 n4 : Int) (h : W.heap[q]? = some (.cells #[.int .u8 n0, .int .u8 n1, .int .u8 n2, .int .u8 n3, .int .u8 n4] 5 (0, 0))) : (convert 22 9 (.slice (some ⟨q, 0, none⟩) 5 5)).run Tryd.prog W = .ok (.string (str [UInt8.ofNat n0.toNat, UInt8.ofNat n1.toNat, UInt8.ofNat n2.toNat, UInt8.ofNat n3.toNat, UInt8.ofNat n4.toNat])) W := by
  rw [run_convert_bytes_arg (P := Tryd.prog) W 22 5 Tryd.underlying22 Tryd.underlying5 q 0 5 5 [n0, n1, n2, n3, n4] rfl (fun i hi => by
    rw [cell_of_row _ _ _ _ _ _ h]
    have : i = 0 ∨ i = 1 ∨ i = 2 ∨ i = 3 ∨ i = 4 := by omega
    rcases this with rfl | rfl | rfl | rfl | rfl <;> rfl) 9 Tryd.underlying9]
  rfl
def fiveO (v0 v1 v2 v3 : Nat) : Obj := .cells #[.int .u8 (v0 : Int), .int .u8 (v1 : Int), .int .u8 (v2 : Int), .int .u8 (v3 : Int), .int .u8 1] 5 (0, 0)
theorem carry5 {W w1 : World} {q : Nat} {n0 n1 n2 n3 : Int} (hb : Below W.heap.size W w1) (h : W.heap[q]? = some (.cells #[.int .u8 n0, .int .u8 n1, .int .u8 n2, .int .u8 n3, .int .u8 1] 5 (0, 0))) : w1.heap[q]? = some (.cells #[.int .u8 n0, .int .u8 n1, .int .u8 n2, .int .u8 n3, .int .u8 1] 5 (0, 0)) :=
  (hb.block _ (block_lt h)).trans h
theorem salt_alloc {x : World} (h : SaltAt x salts) (o : Obj) : SaltAt (x.alloc o) salts := h.keep ((Below.refl _ _).alloc (Nat.le_refl _) _)
set_option maxRecDepth 100000 in
set_option maxHeartbeats 40000000 in
theorem keysTwice_walk (a0 : ByteArray) (a1 : Int) (w : World) (w0 : a0.size ≤ reachBytes) (w1 : (Lit.int .u32 a1).wf = true) (hT : SaltAt w salts) :
    Calls Tryd.prog 4 #[.string a0, .int .u32 a1] w fun e w' => e = .returned (.bool true) ∧ Below w.heap.size w w' := by
  obtain ⟨n, rfl, hn⟩ : ∃ n : Nat, a1 = (n : Int) ∧ n < 4294967296 := by
    have : 0 ≤ a1 ∧ a1 ≤ 4294967295 := by simpa [Lit.wf, IntKind.min, IntKind.max, IntKind.signed, IntKind.bits] using w1
    exact ⟨a1.toNat, by omega, by omega⟩
  clear w0 w1
  have hk : a0.extract 0 (min (a0.size : Int) 100).toNat = str (a0.data.toList.take 100) := cut_min a0 100
  obtain ⟨k, hk0⟩ : ∃ k, k = a0.data.toList.take 100 := ⟨_, rfl⟩
  have hkl : k.length ≤ 100 := by rw [hk0, List.length_take]; omega
  rw [← hk0] at hk
  have c1 := fun w' h => keys_any k n hn (by omega) w' h
  have c2 : ∀ w', Calls Tryd.prog 14 #[.string ⟨#[108, 111, 100, 101, 115, 116, 111, 110, 101]⟩, .string (str k)] w' fun e w2 => e = .returned (.string (str (tagL saltL k))) ∧ Below w'.heap.size w' w2 := fun w' => rtag_any saltL k (by decide) (by omega) w'
  have c3 : ∀ w', Calls Tryd.prog 14 #[.string (str (tagL saltL k)), .string (str (purposeL n ++ [1]))] w' fun e w2 => e = .returned (.string (str (keyT k n))) ∧ Below w'.heap.size w' w2 := fun w' => by
    rw [keyT_tag]
    exact rtag_any (tagL saltL k) (purposeL n ++ [1]) (by rw [tagL_len]; decide) (by rw [List.length_append, purposeL_len]; decide) w'
  obtain ⟨v0, hv0⟩ : ∃ v : Nat, v = n / 16777216 % 256 := ⟨_, rfl⟩
  obtain ⟨v1, hv1⟩ : ∃ v : Nat, v = n / 65536 % 256 := ⟨_, rfl⟩
  obtain ⟨v2, hv2⟩ : ∃ v : Nat, v = n / 256 % 256 := ⟨_, rfl⟩
  obtain ⟨v3, hv3⟩ : ∃ v : Nat, v = n % 256 := ⟨_, rfl⟩
  have hP : purposeL n ++ [1] = [101, 112, 111, 99, 104, UInt8.ofNat v0, UInt8.ofNat v1, UInt8.ofNat v2, UInt8.ofNat v3, 1] := by rw [hv0, hv1, hv2, hv3, purposeL, beL_four]; rfl
  rw [hP] at c3
  have ev0 : (n : Int) / 16777216 % 256 = (v0 : Int) := by omega
  have ev1 : (n : Int) / 65536 % 256 = (v1 : Int) := by omega
  have ev2 : (n : Int) / 256 % 256 = (v2 : Int) := by omega
  have ev3 : (n : Int) % 256 = (v3 : Int) := by omega
  have ew0 : IntKind.u8.wrap ((n : Int) / 16777216) = (v0 : Int) := by rw [IntKind.wrap_u8]; omega
  have ew1 : IntKind.u8.wrap ((n : Int) / 65536) = (v1 : Int) := by rw [IntKind.wrap_u8]; omega
  have ew2 : IntKind.u8.wrap ((n : Int) / 256) = (v2 : Int) := by rw [IntKind.wrap_u8]; omega
  have ew3 : IntKind.u8.wrap (n : Int) = (v3 : Int) := by rw [IntKind.wrap_u8]; omega
  have hz : (⟨#[101, 112, 111, 99, 104]⟩ : ByteArray) = str [101, 112, 111, 99, 104] := rfl
  obtain ⟨K0, hK0⟩ : ∃ X, X = str k := ⟨_, rfl⟩
  obtain ⟨T0, hT0⟩ : ∃ X, X = str (keyT k n) := ⟨_, rfl⟩
  obtain ⟨G0, hG0⟩ : ∃ X, X = str (keyG k n) := ⟨_, rfl⟩
  obtain ⟨E0, hE0⟩ : ∃ X, X = str (tagL saltL k) := ⟨_, rfl⟩
  rw [← hK0, ← hT0, ← hG0] at c1
  rw [← hK0, ← hE0] at c2
  rw [← hT0, ← hE0] at c3
  rw [← hK0] at hk
  have b1 : (0 : Int) ≤ min (a0.size : Int) 100 := by omega
  have b2 : min (a0.size : Int) 100 ≤ (a0.size : Int) := by omega
  have hbb : Below w.heap.size w w := Below.refl _ _
  replace hbb := Lib.hid hbb
  replace c1 := Lib.hid c1; replace c2 := Lib.hid c2; replace c3 := Lib.hid c3; replace hT := Lib.hid hT; replace hn := Lib.hid hn
  have cv := fun W q h => conv_five W q (v0 : Int) (v1 : Int) (v2 : Int) (v3 : Int) 1 h
  replace cv := Lib.hid cv
  have hn5 : (n : Int) ≥ 0 := Int.natCast_nonneg n
  have cvB : ∀ (W : World) (q : Nat), W.heap[q]? = some (.cells #[.int .u8 (v0 : Int), .int .u8 (v1 : Int), .int .u8 (v2 : Int), .int .u8 (v3 : Int), .int .u8 1] 5 (0, 0)) → (convert 22 9 (.slice (some ⟨q, 0, none⟩) 5 5)).run Tryd.prog W = .ok (.string (str [UInt8.ofNat v0, UInt8.ofNat v1, UInt8.ofNat v2, UInt8.ofNat v3, 1])) W := fun W q h => by
    have := conv_five W q (v0 : Int) (v1 : Int) (v2 : Int) (v3 : Int) 1 h
    simpa using this
  have ha : ∀ x : World, (x.alloc (.cells #[.int .u8 (v0 : Int), .int .u8 (v1 : Int), .int .u8 (v2 : Int), .int .u8 (v3 : Int), .int .u8 1] 5)).heap[x.heap.size]? = some (.cells #[.int .u8 (v0 : Int), .int .u8 (v1 : Int), .int .u8 (v2 : Int), .int .u8 (v3 : Int), .int .u8 1] 5 (0, 0)) := fun x => heap_alloc_new x _
  have hfl : ∀ W : World, (Instr.field 28 (.agg #[.string T0, .string G0]) 0).run Tryd.prog W = .ok (.string T0) W := fun W => by kernel_rfl
  have t1 : (T0.toList == T0.toList) = true := by simp
  have t2 : (G0.toList == G0.toList) = true := by simp
  have t3 : (⟨#[101, 112, 111, 99, 104]⟩ : ByteArray) ++ str [UInt8.ofNat v0, UInt8.ofNat v1, UInt8.ofNat v2, UInt8.ofNat v3, 1] = str [101, 112, 111, 99, 104, UInt8.ofNat v0, UInt8.ofNat v1, UInt8.ofNat v2, UInt8.ofNat v3, 1] := by
    rw [hz, str_append]; rfl
  have t4 : (str [UInt8.ofNat v0, UInt8.ofNat v1, UInt8.ofNat v2, UInt8.ofNat v3, 1]).size = 5 := by rw [str_size]; rfl
  clear hk0 hkl hK0 hT0 hG0 hE0 hv0 hv1 hv2 hv3 hP hz
  go_enter Tryd.func4, Tryd.ntmps4
  go_upto_region 2 with fail
  have hb0 := (Below.refl w.heap.size w).drew
  replace hb0 := Lib.hid hb0
  clear cv hbb hk b1 b2
  have cvA : ∀ x : World, (convert 22 9 (.slice (some ⟨x.heap.size, 0, none⟩) 5 5)).run Tryd.prog (x.alloc (.cells #[.int .u8 (v0 : Int), .int .u8 (v1 : Int), .int .u8 (v2 : Int), .int .u8 (v3 : Int), .int .u8 1] 5)) = .ok (.string (str [UInt8.ofNat v0, UInt8.ofNat v1, UInt8.ofNat v2, UInt8.ofNat v3, 1])) (x.alloc (.cells #[.int .u8 (v0 : Int), .int .u8 (v1 : Int), .int .u8 (v2 : Int), .int .u8 (v3 : Int), .int .u8 1] 5)) := fun x => cvB _ _ (heap_alloc_new x _)
  clear ha
  go_region_held (fun w' => SaltAt w' salts ∧ Below w.heap.size w w')
    (first
    | exact ⟨hT.out.keep hb0.out, hb0.out⟩
    | (go_split_ands; exact ⟨by assumption, by assumption⟩)
    | (go_split_ands; exact ⟨SaltAt.keep (by assumption) (by assumption), belowCont (by assumption) (by assumption)⟩)
    | (go_split_ands; exact ⟨salt_alloc (by assumption) _, Below.alloc (by assumption) (Below.size (by assumption)) _⟩))
    (first
      | (go_at_call 12; (with_reducible refine (kawake_any _ (by go_split_ands; assumption)).mono ?_); rintro e w1 ⟨rfl, hb⟩)
      | (go_at_call 13; (with_reducible refine (c1.out _ (by go_split_ands; assumption)).mono ?_); rintro e w1 ⟨rfl, hb⟩; (first | (have hq := (boxRow hb).1) | (have hq := carry5 hb (by assumption)) | skip))
      | (go_at_call 13; (with_reducible refine (c1.out _ (by go_split_ands; exact salt_alloc (by assumption) _)).mono ?_); rintro e w1 ⟨rfl, hb⟩; (first | (have hq := (boxRow hb).1) | (have hq := carry5 hb (by assumption)) | skip))
      | (go_at_call 14; (with_reducible refine (c2.out _).mono ?_); rintro e w1 ⟨rfl, hb⟩; (first | (have hq := (boxRow hb).1) | (have hq := carry5 hb (by assumption)) | skip))
      | (go_at_call 14; (with_reducible refine (c3.out _).mono ?_); rintro e w1 ⟨rfl, hb⟩; (first | (have hq := (boxRow hb).1) | (have hq := carry5 hb (by assumption)) | skip)))
  all_goals (obtain ⟨_, bz⟩ := ‹SaltAt _ salts ∧ _›)
  all_goals (replace bz := Lib.hid bz)
  all_goals go_wp2
  all_goals go_ret
  all_goals exact ⟨rfl, bz.out⟩
end Go.Proofs.YtebhdlecekjhgaaDoor.sha
