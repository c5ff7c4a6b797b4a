/- What was made sure is there behind any failure, whatever was written since elsewhere: the law DiskSure. No condition. -/
import Derived.Test.YtdhboldmffiklabDisk7
import Derived.Test.YtdhboldmffiklabArgs
import Derived.BigRegion
namespace Go.Proofs.Ytdhboldmffiklab.disk
open Go.RowKit
attribute [local go_sem ↓] Go.wp_at_zero Go.wp_at_succ
attribute [local go_sem] str_size
set_option linter.unusedVariables false
set_option maxRecDepth 100000

def c1 (i : Nat) : UInt8 := UInt8.ofNat (i + 1)
/-- so many blocks are written -/
def st1 (i : Nat) : DSt := ⟨List.replicate 8 Z512, fun x => if 0 ≤ x ∧ x < (i : Int) then some (blockL (c1 x.toNat)) else none, List.range i, i, false⟩
theorem st1_wr (i : Nat) : (st1 i).wr i (blockL (c1 i)) = st1 (i + 1) := by
  have hf : (st1 i).f (i : Int) = none := by simp [st1]
  unfold DSt.wr
  rw [hf]
  unfold st1
  simp only [Option.isSome_none, Bool.false_eq_true, if_false]
  refine congr (congr (congr (congr (congrArg DSt.mk rfl) (funext fun x => ?_)) (List.range_succ).symm) rfl) rfl
  by_cases e : x = (i : Int)
  · subst e
    rw [if_pos rfl, if_pos (by omega)]; rfl
  · rw [if_neg e]
    by_cases h : 0 ≤ x ∧ x < (i : Int)
    · rw [if_pos h, if_pos (by omega)]
    · rw [if_neg h, if_neg (by omega)]
theorem st1_0 : st1 0 = blankSt (List.replicate 8 Z512) := by
  unfold st1 blankSt
  refine congr (congr (congr (congr (congrArg DSt.mk rfl) (funext fun x => ?_)) rfl) rfl) rfl
  rw [if_neg (by omega)]
def S4 : List (List UInt8) := layL (st1 4).f (List.replicate 8 Z512) (List.range 4)
theorem S4_len : S4.length = 8 := by unfold S4; rw [layL_len]; simp
theorem layL_all (f : Int → Option (List UInt8)) (hf : ∀ x t, f x = some t → t.length = 512) : ∀ (l : List Nat) (S : List (List UInt8)), (∀ n, n ∈ l → (f (n : Int)).isSome = true) → (∀ s, s ∈ S → s.length = 512) → ∀ s, s ∈ layL f S l → s.length = 512
  | [], S, _, h => h
  | n :: l, S, hn, h => by
    obtain ⟨t, ht⟩ := Option.isSome_iff_exists.1 (hn n (by simp))
    refine layL_all f hf l _ (fun j hj => hn j (by simp [hj])) (set_all h ?_ n)
    rw [ht]; exact hf _ _ ht
theorem st1_f (i : Nat) (x : Int) (t : List UInt8) (h : (st1 i).f x = some t) : t.length = 512 := by
  simp only [st1] at h
  split at h
  · injection h with h; rw [← h]; exact blockL_len _
  · cases h
theorem st1_row (i n : Nat) (h : n ∈ (st1 i).row) : n < i ∧ ((st1 i).f (n : Int)).isSome = true := by
  have hn : n < i := by simpa [st1] using h
  refine ⟨hn, ?_⟩
  simp only [st1]
  rw [if_pos (by omega)]; rfl
theorem S4_all : ∀ s, s ∈ S4 → s.length = 512 :=
  layL_all _ (fun x t h => st1_f 4 x t h) _ _ (fun n hn => (st1_row 4 n hn).2) (fun s hs => by rw [List.eq_of_mem_replicate hs]; exact List.length_replicate)
theorem S4_get (i : Nat) (h : i < 4) : S4[i]? = some (blockL (c1 i)) := by
  have e : ∀ n : Nat, n < 4 → ((st1 4).f (n : Int)).getD [] = blockL (c1 n) := fun n hn => by
    simp only [st1]
    rw [if_pos (by omega)]; rfl
  have hl : (List.replicate 8 Z512).length = 8 := List.length_replicate
  have hS : S4 = ((((List.replicate 8 Z512).set 0 (blockL (c1 0))).set 1 (blockL (c1 1))).set 2 (blockL (c1 2))).set 3 (blockL (c1 3)) := by
    show layL (st1 4).f (List.replicate 8 Z512) [0, 1, 2, 3] = _
    simp only [layL]
    rw [e 0 (by decide), e 1 (by decide), e 2 (by decide), e 3 (by decide)]
  rw [hS]
  generalize List.replicate 8 Z512 = S at hl
  have : i = 0 ∨ i = 1 ∨ i = 2 ∨ i = 3 := by omega
  rcases this with rfl | rfl | rfl | rfl <;> simp [List.getElem?_set, hl]
/-- behind the flush: what is written since stands elsewhere -/
structure Else (st : DSt) (i : Nat) : Prop where
  sure : st.sure = S4
  dead : st.dead = false
  acts : st.acts ≤ 5 + i
  len : st.row.length ≤ i
  row : ∀ n, n ∈ st.row → 4 ≤ n ∧ n < 8 ∧ (st.f (n : Int)).isSome = true
  all : ∀ x t, st.f x = some t → t.length = 512
theorem Else.next {st : DSt} {i : Nat} (h : Else st i) {n : Nat} (hn : 4 ≤ n ∧ n < 8) {s : List UInt8} (hs : s.length = 512) : Else (st.wr n s) (i + 1) := by
  refine ⟨h.sure, h.dead, by have := h.acts; simp only [DSt.wr]; omega, ?_, ?_, ?_⟩
  · have := h.len
    simp only [DSt.wr]
    split
    · omega
    · rw [List.length_append]; simp; omega
  · intro j hj
    simp only [DSt.wr] at hj ⊢
    by_cases e : (j : Int) = (n : Int)
    · have : j = n := by omega
      subst this
      exact ⟨hn.1, hn.2, by rw [if_pos rfl]; rfl⟩
    · rw [if_neg e]
      split at hj
      · exact h.row j hj
      · rcases List.mem_append.1 hj with h1 | h1
        · exact h.row j h1
        · simp at h1; subst h1; exact absurd rfl e
  · intro x t hx
    simp only [DSt.wr] at hx
    split at hx
    · injection hx with hx; rw [← hx]; exact hs
    · exact h.all x t hx
theorem Else.acts_lt {st : DSt} {i : Nat} (h : Else st i) (hi : i < 40) : st.acts < 1000000 := by have := h.acts; omega
theorem Else.len_lt {st : DSt} {i : Nat} (h : Else st i) (hi : i < 40) : st.row.length < 100000 := by have := h.len; omega
theorem u8_of {a : Int} (h : (Lit.int .u8 a).wf = true) : ∃ c : UInt8, a = (c.toNat : Int) := by
  have := (by simpa [Lit.wf, IntKind.min, IntKind.max, IntKind.signed, IntKind.bits] using h : 0 ≤ a ∧ a ≤ 255)
  exact ⟨UInt8.ofNat a.toNat, by rw [UInt8.toNat_ofNat']; omega⟩
theorem u8_c1 (i : Nat) (h : i < 4) : IntKind.u8.wrap ((i : Int) + 1) = ((c1 i).toNat : Int) := by
  have : i = 0 ∨ i = 1 ∨ i = 2 ∨ i = 3 := by omega
  rcases this with rfl | rfl | rfl | rfl <;> rfl
theorem low2 (x : Int) : ∃ n : Nat, bits .and .i64 x 3 = ((n : Nat) : Int) ∧ ∃ N : Nat, (4 : Int) + (n : Int) = (N : Int) ∧ (4 ≤ N ∧ N < 8) ∧ wrap64 (N : Int) = (N : Int) ∧ IntKind.i64.wrap (N : Int) = (N : Int) := by
  obtain ⟨n, hn, h4⟩ : ∃ n : Nat, x % 4 = (n : Int) ∧ n < 4 := ⟨(x % 4).toNat, by omega, by omega⟩
  exact ⟨n, by rw [and_3, hn], 4 + n, by omega, by omega, by unfold wrap64; omega, by rw [IntKind.wrap_i64]; omega⟩
set_option maxHeartbeats 8000000 in
theorem diskSure_walk (a0 : Option Addr) (len0 cap0 : Nat) (a1 : Int) (w : World) (w0 : SliceArg w a0 len0 4 (fun j v => match j with | 0 => ∃ x, v = .int .i64 x ∧ (Lit.int .i64 x).wf = true | 1 => ∃ x, v = .int .i64 x ∧ (Lit.int .i64 x).wf = true | 2 => ∃ x, v = .int .u8 x ∧ (Lit.int .u8 x).wf = true | 3 => ∃ x, v = .int .u64 x ∧ (Lit.int .u64 x).wf = true | _ => False)) (w1 : (Lit.int .u64 a1).wf = true) :
    Calls Try.prog 5 #[.slice a0 len0 cap0, .int .u64 a1] w fun e w' => e = .returned (.bool true) ∧ Below w.heap.size w w' := by
  clear w1
  obtain ⟨B, hB⟩ : ∃ B, B = w.heap.size := ⟨_, rfl⟩
  have cN : Calls Try.prog 24 #[.int .i64 8, .slice none 0 0] w fun e w' => ∃ g q m k, e = .returned (.tuple #[.pointer (some ⟨g, 0, none⟩), .int .i64 0]) ∧ DiskAt w' B g q m k (.slice none 0 0) (st1 0) ∧ Below B w w' := (new_ok 8 (by decide) (by decide) w).mono fun e w' ⟨h1, h2, h3⟩ => ⟨_, _, _, _, h1, by rw [hB, st1_0]; exact h2, by rw [hB]; exact h3⟩
  have hw0 := Lib.hid w0
  replace cN := Lib.hid cN
  rw [← hB]
  clear w0
  go_enter Try.func5, Try.ntmps5
  go_wp2_with (first
    | (go_at_call 24; (with_reducible refine cN.out.mono ?_); rintro e w1 ⟨g, q, m, k, rfl, hD, b1⟩; replace hD := Lib.hid hD; replace b1 := Lib.hid b1)
    | (go_at_call 25; (with_reducible refine (kawake_disk _).mono ?_); rintro e w2 ⟨rfl, b2⟩; replace b1 := Lib.hid (b1.out.trans (b2.mono (by rw [hB]; exact (hB ▸ b1.out).size))); replace hD := Lib.hid (hD.out.below b2); clear b2))
  go_loopg [7] 4 (fun gn s7 wr => ∃ (i : Nat) (v : Value), s7 = .int .i64 (i : Int) ∧ i + gn = 4 ∧ DiskAt wr B g q m k v (st1 i) ∧ Below B w wr)
  case atStart => exact ⟨0, _, rfl, rfl, hD.out, b1.out⟩
  case round =>
    clear hD b1
    obtain ⟨i, v, rfl, hik, hD, hb⟩ := hrel
    by_cases hi : i < 4
    · obtain ⟨Ko, rfl⟩ : ∃ K : Nat, gk = K + 1 := ⟨gk - 1, by omega⟩
      have e1 : (i : Int) < 4 := by omega
      have e2 : wrap64 ((i : Int) + 1) = (i : Int) + 1 := by unfold wrap64; omega
      have e3 : IntKind.i64.wrap ((i : Int) + 1) = (i : Int) + 1 := by rw [IntKind.wrap_i64]; omega
      have e4 : IntKind.u8.wrap ((i : Int) + 1) = ((c1 i).toNat : Int) := by
        have : i = 0 ∨ i = 1 ∨ i = 2 ∨ i = 3 := by omega
        rcases this with rfl | rfl | rfl | rfl <;> rfl
      have hbl : ∀ W, Calls Try.prog 27 #[.int .u8 ((c1 i).toNat : Int)] W fun e w' => e = .returned (.string (str (blockL (c1 i)))) ∧ Below W.heap.size W w' := fun W => block_any (c1 i) W
      have hwr : ∀ W, DiskAt W B g q m k v (st1 i) → Calls Try.prog 26 #[.pointer (some ⟨g, 0, none⟩), .int .i64 (i : Int), .string (str (blockL (c1 i)))] W fun e w' => e = .returned (.int .i64 0) ∧ (∃ v2, DiskAt w' B g q m k v2 (st1 (i + 1))) ∧ Below B W w' := fun W h => by
        have := write_any h rfl (by show i < 1000000; omega) i (blockL (c1 i)) (by show i < (List.replicate 8 Z512).length; rw [List.length_replicate]; omega) (by show (List.replicate 8 Z512).length ≤ _; rw [List.length_replicate]; decide) (blockL_len _) (by show (List.range i).length < _; rw [List.length_range]; omega)
        rwa [st1_wr i] at this
      replace hbl := Lib.hid hbl; replace hwr := Lib.hid hwr; replace hD := Lib.hid hD; replace hb := Lib.hid hb
      have hBB : ∀ W, Below B w W → B ≤ W.heap.size := fun W h => Nat.le_trans (by rw [hB]; exact Nat.le_refl _) h.size
      replace hBB := Lib.hid hBB
      go_wp2_with (first
        | (go_at_call 27; (with_reducible refine (hbl.out _).mono ?_); rintro e w3 ⟨rfl, b3⟩; replace hb := Lib.hid (hb.out.trans (b3.mono (hBB.out _ hb.out))); replace hD := Lib.hid (hD.out.below b3); clear b3)
        | (go_at_call 26; (with_reducible refine (hwr.out _ hD.out).mono ?_); rintro e w4 ⟨rfl, ⟨v2, h2⟩, b4⟩; replace hb := Lib.hid (hb.out.trans b4); replace h2 := Lib.hid h2; clear b4 hD))
      go_roundg Ko
      case measure => omega
      case rel => exact ⟨i + 1, v2, by go_num, by omega, h2.out, hb.out⟩
    · have hk0 : gk = 0 := by omega
      subst hk0
      obtain rfl : i = 4 := by omega
      clear hik hi
      have hfl : ∀ W, DiskAt W B g q m k v (st1 4) → Calls Try.prog 28 #[.pointer (some ⟨g, 0, none⟩)] W fun e w' => e = .returned (.int .i64 0) ∧ (∃ m2, DiskAt w' B g q m2 k (.slice none 0 0) ⟨S4, fun _ => none, [], 5, false⟩) ∧ Below B W w' := fun W h => flush_any h rfl (by decide) (by show (List.replicate 8 Z512).length ≤ _; rw [List.length_replicate]; decide) (fun n hn => ⟨by have := (st1_row 4 n hn).1; show n < (List.replicate 8 Z512).length; rw [List.length_replicate]; omega, (st1_row 4 n hn).2⟩) (by decide)
      replace hfl := Lib.hid hfl; replace hD := Lib.hid hD; replace hb := Lib.hid hb
      go_wp2_with (go_at_call 28; (with_reducible refine (hfl.out _ hD.out).mono ?_); rintro e w5 ⟨rfl, ⟨m2, h2⟩, b5⟩; replace hb := Lib.hid (hb.out.trans b5); replace h2 := Lib.hid h2; clear b5 hD)
      have hE0 : Else ⟨S4, fun _ => none, [], 5, false⟩ 0 := ⟨rfl, rfl, Nat.le_refl _, Nat.le_refl _, fun n hn => by simp at hn, fun x t h => by cases h⟩
      replace hE0 := Lib.hid hE0
      go_loopg [9] (min len0 40) (fun gn s9 wr => ∃ (i : Nat) (v : Value) (st : DSt), s9 = .int .i64 (i : Int) ∧ i + gn = min len0 40 ∧ DiskAt wr B g q m2 k v st ∧ Else st i ∧ Below B w wr)
      case atStart => exact ⟨0, _, _, rfl, by omega, h2.out, hE0.out, hb.out⟩
      case round =>
        clear h2 hb hE0
        obtain ⟨i, v, st, rfl, hik, hD, hE, hb⟩ := hrel
        by_cases hi : i < len0 ∧ i < 40
        · obtain ⟨hi1, hi2⟩ := hi
          obtain ⟨Ko, rfl⟩ : ∃ K : Nat, gk = K + 1 := ⟨gk - 1, by omega⟩
          obtain ⟨hw1, hw2⟩ := hw0.out
          obtain ⟨b, off, rfl, hlt, hcells⟩ := hw2.resolve_left (by omega)
          obtain ⟨x1, d1, n1, rfl, hn1⟩ := hcells i hi1 1 (by decide)
          obtain ⟨x2, d2, n2, rfl, hn2⟩ := hcells i hi1 2 (by decide)
          have hcell : ∀ W, Below B w W → W.cell? ⟨b, off + i * 4 + 1, none⟩ = some (.int .i64 n1) ∧ W.cell? ⟨b, off + i * 4 + 2, none⟩ = some (.int .u8 n2) := fun W h => ⟨(h.cell (p := ⟨b, off + i * 4 + 1, none⟩) (by rw [hB]; exact hlt)).trans d1, (h.cell (p := ⟨b, off + i * 4 + 2, none⟩) (by rw [hB]; exact hlt)).trans d2⟩
          obtain ⟨d1, d2⟩ := hcell _ hb
          obtain ⟨c, hc⟩ := u8_of hn2
          subst hc
          obtain ⟨n, hn, N, hN, hN8, e3, e4⟩ := low2 n1
          have e0 : (0 : Int) ≤ (i : Int) := by omega
          have e1 : (i : Int) < (len0 : Int) := by omega
          have e2 : (i : Int) < 40 := by omega
          have hbl : ∀ W, Calls Try.prog 27 #[.int .u8 (c.toNat : Int)] W fun e w' => e = .returned (.string (str (blockL c))) ∧ Below W.heap.size W w' := fun W => block_any c W
          have hwr : ∀ W, DiskAt W B g q m2 k v st → Calls Try.prog 26 #[.pointer (some ⟨g, 0, none⟩), .int .i64 (N : Int), .string (str (blockL c))] W fun e w' => e = .returned (.int .i64 0) ∧ (∃ v2, DiskAt w' B g q m2 k v2 (st.wr N (blockL c))) ∧ Below B W w' := fun W h =>
            write_any h hE.dead (hE.acts_lt hi2) N (blockL c) (by rw [hE.sure, S4_len]; exact hN8.2) (by rw [hE.sure, S4_len]; decide) (blockL_len _) (hE.len_lt hi2)
          have hE2 := hE.next hN8 (blockL_len c)
          have hBB : ∀ W, Below B w W → B ≤ W.heap.size := fun W h => Nat.le_trans (by rw [hB]; exact Nat.le_refl _) h.size
          replace hBB := Lib.hid hBB; replace hbl := Lib.hid hbl; replace hwr := Lib.hid hwr; replace hD := Lib.hid hD; replace hb := Lib.hid hb; replace hcell := Lib.hid hcell; replace hE2 := Lib.hid hE2
          clear hcells hw1 hw2 hn1 hn2 hE
          go_upto_region 12 with fail
          go_region_with (first
            | (go_at_call 27; (with_reducible refine (hbl.out _).mono ?_); rintro e w6 ⟨rfl, b6⟩; have hD6 : DiskAt w6 B g q m2 k v st := hD.out.below (((Below.refl wr.heap.size wr).drew).trans b6); replace hD6 := Lib.hid hD6; obtain ⟨y1, y2⟩ := hcell.out _ (hb.out.drew.trans (b6.mono (show B ≤ wr.drew.heap.size from hBB.out wr hb.out))))
            | (go_at_call 26; (with_reducible refine (hwr.out _ hD6.out).mono ?_); rintro e w7 ⟨rfl, ⟨v2, h7⟩, b7⟩))
          all_goals (go_wp2; go_roundg Ko; (case measure => omega); (case rel => exact ⟨i + 1, v2, _, by go_num, by omega, h7, hE2.out, (hb.out.drew.trans (b6.mono (show B ≤ wr.drew.heap.size from hBB.out wr hb.out))).trans b7⟩))
        · have hk0 : gk = 0 := by omega
          subst hk0
          have hfa : ∀ W, DiskAt W B g q m2 k v st → Calls Try.prog 29 #[.pointer (some ⟨g, 0, none⟩), .int .u64 a1] W fun e w' => e = .returned (.tuple #[]) ∧ (∃ m3 S, DiskAt w' B g q m3 k (.slice none 0 0) ⟨S, fun _ => none, [], st.acts, true⟩ ∧ S.length = 8 ∧ ∀ j, j < 4 → S[j]? = some (blockL (c1 j))) ∧ Below B W w' := fun W h =>
            (fail_any h hE.dead (by rw [hE.sure, S4_len]; decide) (by rw [hE.sure]; exact S4_all) (fun n hn => ⟨by rw [hE.sure, S4_len]; exact (hE.row n hn).2.1, by
              obtain ⟨t, ht⟩ := Option.isSome_iff_exists.1 (hE.row n hn).2.2
              exact ⟨t, ht, hE.all _ _ ht⟩⟩) (by have := hE.len; omega) a1).mono fun e w' ⟨h1, ⟨m3, S, h2, h3, h4⟩, h5⟩ => ⟨h1, ⟨m3, S, h2, by rw [h3, hE.sure, S4_len], fun j hj => by
                rw [h4 j (fun hm => by have := (hE.row j hm).1; omega), hE.sure]; exact S4_get j hj⟩, h5⟩
          replace hfa := Lib.hid hfa; replace hD := Lib.hid hD; replace hb := Lib.hid hb
          have hcase : ((i : Int) < (len0 : Int) ∧ ¬ (i : Int) < 40) ∨ ¬ (i : Int) < (len0 : Int) := by omega
          clear hE hik hi
          rcases hcase with ⟨g1, g2⟩ | g1
          all_goals (
            go_upto_region 15 with (first
              | (go_at_call 29; (with_reducible refine (hfa.out _ hD.out).mono ?_); rintro e w8 ⟨rfl, ⟨m3, S, h8, hS8, hS⟩, b8⟩; replace hb := Lib.hid (hb.out.trans b8); replace h8 := Lib.hid h8; replace hS8 := Lib.hid hS8; replace hS := Lib.hid hS; clear b8)
              | (go_at_call 18; (with_reducible refine (up_any h8.out).mono ?_); rintro e w9 ⟨rfl, h9, b9⟩; replace hb := Lib.hid (hb.out.trans b9); clear b9 h8; obtain ⟨U, hU⟩ : ∃ U : DSt, U = ⟨S, fun _ => none, [], st.acts, false⟩ := ⟨_, rfl⟩; replace h9 : DiskAt w9 B g q m3 k (.slice none 0 0) U := (by rw [hU]; exact h9); replace h9 := Lib.hid h9; have hUd : U.dead = false := (by rw [hU]); have hUl : U.sure.length = 8 := (by rw [hU]; exact hS8.out); have hUs : ∀ j, j < 4 → U.see j = blockL (c1 j) := (fun j hj => by rw [hU]; unfold DSt.see; show S.getD j [] = _; rw [List.getD_eq_getElem?_getD, hS.out j hj]; rfl); replace hUd := Lib.hid hUd; replace hUl := Lib.hid hUl; replace hUs := Lib.hid hUs; clear hU hS hS8))
            go_wp2
            go_loopg [10] 4 (fun gn s10 wr => ∃ j : Nat, s10 = .int .i64 (j : Int) ∧ j + gn = 4 ∧ DiskAt wr B g q m3 k (.slice none 0 0) U ∧ Below B w wr)
            (case atStart => exact ⟨0, rfl, rfl, h9.out, hb.out⟩)
            (case round =>
              clear h9 hb
              obtain ⟨j, rfl, hjk, hD, hb⟩ := hrel
              by_cases hj : j < 4
              · obtain ⟨Ko, rfl⟩ : ∃ K : Nat, gk = K + 1 := ⟨gk - 1, by omega⟩
                have e1 : (j : Int) < 4 := by omega
                have e2 : wrap64 ((j : Int) + 1) = (j : Int) + 1 := by unfold wrap64; omega
                have e3 : IntKind.i64.wrap ((j : Int) + 1) = (j : Int) + 1 := by rw [IntKind.wrap_i64]; omega
                have e4 : IntKind.u8.wrap ((j : Int) + 1) = ((c1 j).toNat : Int) := u8_c1 j hj
                have hbl : ∀ W, Calls Try.prog 27 #[.int .u8 ((c1 j).toNat : Int)] W fun e w' => e = .returned (.string (str (blockL (c1 j)))) ∧ Below W.heap.size W w' := fun W => block_any (c1 j) W
                have hrd : ∀ W, DiskAt W B g q m3 k (.slice none 0 0) U → Calls Try.prog 30 #[.pointer (some ⟨g, 0, none⟩), .int .i64 (j : Int)] W fun e w' => e = .returned (.tuple #[.string (str (blockL (c1 j))), .int .i64 0]) ∧ Below W.heap.size W w' := fun W h => by
                  have := read_any h hUd.out j (by rw [hUl.out]; omega) (by rw [hUl.out]; decide)
                  rwa [hUs.out j hj] at this
                generalize str (blockL (c1 j)) = T at hbl hrd
                have t1 : (T.toList == T.toList) = true := by simp
                have hBB : ∀ W, Below B w W → B ≤ W.heap.size := fun W h => Nat.le_trans (by rw [hB]; exact Nat.le_refl _) h.size
                replace hbl := Lib.hid hbl; replace hrd := Lib.hid hrd; replace hD := Lib.hid hD; replace hb := Lib.hid hb; replace hBB := Lib.hid hBB
                go_wp2_with (first
                  | (go_at_call 27; (with_reducible refine (hbl.out _).mono ?_); rintro e w3 ⟨rfl, b3⟩; replace hb := Lib.hid (hb.out.trans (b3.mono (hBB.out _ hb.out))); replace hD := Lib.hid (hD.out.below b3); clear b3)
                  | (go_at_call 30; (with_reducible refine (hrd.out _ hD.out).mono ?_); rintro e w3 ⟨rfl, b3⟩; replace hb := Lib.hid (hb.out.trans (b3.mono (hBB.out _ hb.out))); replace hD := Lib.hid (hD.out.below b3); clear b3))
                go_roundg Ko
                case measure => omega
                case rel => exact ⟨j + 1, by go_num, by omega, hD.out, hb.out⟩
              · have hk0 : gk = 0 := by omega
                subst hk0
                obtain rfl : j = 4 := by omega
                clear hj hjk
                replace hb := Lib.hid hb
                go_wp2
                go_ret
                exact ⟨rfl, hb.out⟩))
end Go.Proofs.Ytdhboldmffiklab.disk
