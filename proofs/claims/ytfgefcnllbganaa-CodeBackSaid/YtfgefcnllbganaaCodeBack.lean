/- Numbers and texts are read as they were put; a number of more bytes than it must have is none. No condition. -/
import Derived.Test.YtfgefcnllbganaaCodeAwake
import Derived.Test.YtfgefcnllbganaaCodeBig
import Derived.Test.YtfgefcnllbganaaBytes2
import Derived.Deep.DeepCutAuto
namespace Go.Proofs.Ytfgefcnllbganaa.code
open Go.RowKit
attribute [local go_sem ↓] Go.wp_at_zero Go.wp_at_succ
attribute [local go_sem] str_bl str_size str_get0 conv_one conv_one_drew str_append
set_option linter.unusedVariables false

theorem rdNum_long : ∀ (L : List UInt8) (i acc : Nat) (r : List UInt8), (∀ b ∈ L, 128 ≤ b.toNat) → i + L.length ≤ 9 → 0 < i + L.length → rdNum i acc (L ++ 0 :: r) = (0, [], 3)
  | [], i, acc, r, _, _, h => by
    show rdNum i acc (0 :: r) = _
    rw [rdNum, if_pos (Or.inl ⟨by simpa using h, rfl⟩)]
  | b :: L, i, acc, r, hb, hl, h => by
    have h1 := hb b (by simp)
    simp only [List.length_cons] at hl
    show rdNum i acc (b :: (L ++ 0 :: r)) = _
    rw [rdNum, if_neg (by omega), if_neg (by omega)]
    exact rdNum_long L (i + 1) _ r (fun c hc => hb c (by simp [hc])) (by omega) (by omega)
theorem numL_form : ∀ (k n : Nat), n < 128 ^ (k + 1) → ∃ (A : List UInt8) (b : UInt8), numL n = A ++ [b] ∧ (∀ c ∈ A, 128 ≤ c.toNat) ∧ b.toNat < 128 ∧ A.length ≤ k
  | k, n, h => by
    by_cases hs : n < 128
    · exact ⟨[], UInt8.ofNat n, numL_small n hs, by simp, by rw [UInt8.toNat_ofNat']; omega, by simp⟩
    · match k with
      | 0 => simp at h; omega
      | k + 1 =>
        obtain ⟨A, b, h1, h2, h3, h4⟩ := numL_form k (n / 128) (by rw [Nat.div_lt_iff_lt_mul (by decide), ← Nat.pow_succ]; exact h)
        refine ⟨UInt8.ofNat (n % 128 + 128) :: A, b, by rw [numL_big n hs, h1]; rfl, fun c hc => ?_, h3, by simp; omega⟩
        rcases List.mem_cons.1 hc with rfl | hc
        · rw [UInt8.toNat_ofNat']; omega
        · exact h2 c hc
theorem takeBe_put (k n : Nat) (r : List UInt8) : takeBe k (beL k n ++ r) = (n % 256 ^ k, r, 0) := by
  unfold takeBe
  rw [if_pos (by simp [beL_length]), List.take_left' (beL_length k n), List.drop_left' (beL_length k n), beNat_beL]

theorem last_at {w : World} {q : Nat} {A : List UInt8} {b : UInt8} (h : BytesAt w q (A ++ [b])) : w.cell? ⟨q, A.length, none⟩ = some (.int .u8 (b.toNat : Int)) ∧ w.frozen? ⟨q, A.length, none⟩ = false := by
  have := h.2 A.length (by simp)
  simpa [List.getD] using this
theorem last_put {w : World} {q : Nat} {A : List UInt8} {b c : UInt8} (h : BytesAt w q (A ++ [b])) (hb : b.toNat < 128) (hc : c = UInt8.ofNat (b.toNat + 128)) (cap : Nat) :
    (convert 42 9 (.slice (some ⟨q, 0, none⟩) (A.length + 1) cap)).run Try.prog (w.setCell ⟨q, A.length, none⟩ (.int .u8 ((b.toNat : Int) + 128))) = .ok (.string (str (A ++ [c]))) (w.setCell ⟨q, A.length, none⟩ (.int .u8 ((b.toNat : Int) + 128))) := by
  have h1 := h.put (i := A.length) (by simp) (n := (b.toNat : Int) + 128) (by omega)
  have e : (A ++ [b]).set A.length (UInt8.ofNat ((b.toNat : Int) + 128).toNat) = A ++ [c] := by
    rw [hc, show ((b.toNat : Int) + 128).toNat = b.toNat + 128 by omega]; simp
  rw [e] at h1
  have h2 := h1.text cap
  rwa [show (A ++ [c]).length = A.length + 1 by simp] at h2

set_option maxRecDepth 100000 in
set_option maxHeartbeats 2000000 in
theorem codeBack_walk (a0 : Int) (a1 : ByteArray) (w : World) (w0 : (Lit.int .u64 a0).wf = true) (w1 : a1.size ≤ maxLen) :
    Calls Try.prog 7 #[.int .u64 a0, .string a1] w fun e w' => e = .returned (.bool true) ∧ Below w.heap.size w w' := by
  obtain ⟨n, rfl, hn⟩ : ∃ n : Nat, a0 = (n : Int) ∧ n < 18446744073709551616 := by
    have : 0 ≤ a0 ∧ a0 ≤ 18446744073709551615 := by simpa [Lit.wf, IntKind.min, IntKind.max, IntKind.signed, IntKind.bits] using w0
    exact ⟨a0.toNat, by omega, by omega⟩
  clear w0
  obtain ⟨T, hT⟩ : ∃ T : List UInt8, T = a1.data.toList.take 300 := ⟨_, rfl⟩
  have hTl : T.length ≤ 300 := by rw [hT]; simp; omega
  have hx : a1.extract 0 300 = str T := by rw [hT]; exact cut_text _ _
  have hx2 : a1.size ≤ 300 → a1.extract 0 a1.size = str T := by
    intro h; rw [hT]; exact cut_whole _ _ h
  clear hT
  obtain ⟨m, hm, hm2⟩ : ∃ m : Nat, m = n % 4294967296 ∧ m < 4294967296 := ⟨_, rfl, Nat.mod_lt _ (by decide)⟩
  have e1 : IntKind.u32.wrap (n : Int) = m := by rw [IntKind.wrap_u32]; omega
  obtain ⟨p, hp, hp2⟩ : ∃ p : Nat, p = n / 128 ∧ p < 128 ^ 9 := ⟨_, rfl, by have e : (128 : Nat) ^ 9 = 9223372036854775808 := by decide
                                                                            omega⟩
  have e2 : (n : Int) / 128 = p := by omega
  obtain ⟨A, b, hA, hA2, hb, hAl⟩ := numL_form 8 p hp2
  have hor : bits .or .u8 (b.toNat : Int) 128 = ((b.toNat + 128 : Nat) : Int) := by
    have h2 : ∀ k : Fin 128, (k.val ||| 128) = k.val + 128 := by decide +kernel
    have := u8_or_nat b.toNat 128 (by omega) (by omega)
    rw [show ((128 : Nat) : Int) = 128 from rfl] at this
    rw [this, h2 ⟨b.toNat, hb⟩]
  have nl := numL_len64 n hn
  have tl := numL_len64 T.length (by omega)
  have c1 := fun w' => num_any n hn w'
  have c3 := fun w' => big_put n w'
  have c5 := fun w' => small_put m hm2 w'
  have c7 : ∀ w', Calls Try.prog 22 #[.string (str T)] w' fun e w2 => e = .returned (.string (str (numL T.length ++ T))) ∧ Below w'.heap.size w' w2 := fun w' => by
    have := text_any (str T) (by rw [str_size]; omega) w'
    rwa [str_size, str_toList] at this
  have c9 : ∀ w', Calls Try.prog 17 #[.int .u64 (p : Int)] w' fun e w2 => e = .returned (.string (str (A ++ [b]))) ∧ Below w'.heap.size w' w2 := fun w' => by
    have := num_any p (by omega) w'; rwa [hA] at this
  have r1 : ¬ 9223372036854775807 < (numL n).length + ((numL T.length).length + T.length) := by omega
  have r2 : ¬ 9223372036854775807 < (numL n).length + ((numL T.length).length + T.length) + 8 := by omega
  have r3 : ¬ 9223372036854775807 < (numL n).length + ((numL T.length).length + T.length) + 8 + 4 := by omega
  replace nl := Lib.hid nl
  replace tl := Lib.hid tl
  replace hn := Lib.hid hn
  replace hm := Lib.hid hm
  replace hm2 := Lib.hid hm2
  replace hp := Lib.hid hp
  replace hp2 := Lib.hid hp2
  replace hTl := Lib.hid hTl
  replace hx := Lib.hid hx
  replace hx2 := Lib.hid hx2
  replace hA := Lib.hid hA
  replace hA2 := Lib.hid hA2
  replace hb := Lib.hid hb
  replace hAl := Lib.hid hAl
  obtain ⟨L, hL⟩ : ∃ L : List UInt8, L = numL n ++ (numL T.length ++ T) ++ beL 8 n ++ beL 4 m := ⟨_, rfl⟩
  have q1 : ∀ w' g, RdAt w' g L 0 → Calls Try.prog 27 #[.pointer (some ⟨g, 0, none⟩), .int .u64 18446744073709551615] w' fun e w2 => e = .returned (.int .u64 (n : Int)) ∧ RdAt w2 g (numL T.length ++ (T ++ (beL 8 n ++ beL 4 m))) 0 ∧ Keeps [g] w' w2 := fun w' g h => by
    have e : L = numL n ++ (numL T.length ++ (T ++ (beL 8 n ++ beL 4 m))) := by rw [hL]; simp [List.append_assoc]
    have h9 := takeNum_any h 18446744073709551615 (by omega)
    rw [e, takeNum_numL n _ _ hn.out (by have := hn.out; omega)] at h9; exact h9
  have q2 : ∀ w' g, RdAt w' g (numL T.length ++ (T ++ (beL 8 n ++ beL 4 m))) 0 → Calls Try.prog 28 #[.pointer (some ⟨g, 0, none⟩), .int .i64 300] w' fun e w2 => e = .returned (.string (str T)) ∧ RdAt w2 g (beL 8 n ++ beL 4 m) 0 ∧ Keeps [g] w' w2 := fun w' g h => by
    have h9 := takeText_any h 300 (by omega)
    rw [takeText_put T _ 300 (by have := hTl.out; omega) (by have := hTl.out; omega)] at h9; exact h9
  have q3 : ∀ w' g, RdAt w' g (beL 8 n ++ beL 4 m) 0 → Calls Try.prog 29 #[.pointer (some ⟨g, 0, none⟩)] w' fun e w2 => e = .returned (.int .u64 (n : Int)) ∧ RdAt w2 g (beL 4 m) 0 ∧ Keeps [g] w' w2 := fun w' g h => by
    have h9 := big_take h
    rw [takeBe_put 8 n, Nat.mod_eq_of_lt (Nat.lt_of_lt_of_le hn.out (by decide))] at h9; exact h9
  have q4 : ∀ w' g, RdAt w' g (beL 4 m) 0 → Calls Try.prog 30 #[.pointer (some ⟨g, 0, none⟩)] w' fun e w2 => e = .returned (.int .u32 (m : Int)) ∧ RdAt w2 g [] 0 ∧ Keeps [g] w' w2 := fun w' g h => by
    have h9 := small_take h
    have e := takeBe_put 4 m []
    rw [List.append_nil, Nat.mod_eq_of_lt (Nat.lt_of_lt_of_le hm2.out (by decide))] at e
    rw [e] at h9; exact h9
  obtain ⟨c, hc⟩ : ∃ c : UInt8, c = UInt8.ofNat (b.toNat + 128) := ⟨_, rfl⟩
  have hc128 : 128 ≤ c.toNat := by rw [hc, UInt8.toNat_ofNat']; have := hb.out; omega
  have q5 : ∀ w' g, RdAt w' g (A ++ [c] ++ [0]) 0 → Calls Try.prog 27 #[.pointer (some ⟨g, 0, none⟩), .int .u64 18446744073709551615] w' fun e w2 => e = .returned (.int .u64 0) ∧ RdAt w2 g [] 3 ∧ Keeps [g] w' w2 := fun w' g h => by
    have h9 := takeNum_any h 18446744073709551615 (by omega)
    have e : takeNum 18446744073709551615 (A ++ [c] ++ [0]) = (0, [], 3) := by
      unfold takeNum
      rw [rdNum_long (A ++ [c]) 0 0 [] (fun x hx => by
        rcases List.mem_append.1 hx with h | h
        · exact hA2.out x h
        · simp at h; rw [h]; exact hc128) (by have := hAl.out; simp; omega) (by simp)]
      rfl
    rw [e] at h9; exact h9
  have q6 : ∀ w' g, RdAt w' g [] 0 → Calls Try.prog 31 #[.pointer (some ⟨g, 0, none⟩)] w' fun e w2 => e = .returned (.int .i64 0) ∧ Keeps [g] w' w2 := fun w' g h => end_any h
  have hz0 : ∀ l, str l ++ (⟨#[0]⟩ : ByteArray) = str (l ++ [0]) := fun l => str_append l [0]
  have hAl9 : A.length ≤ 9 := by have := hAl.out; omega
  replace hc := Lib.hid hc
  replace hc128 := Lib.hid hc128
  replace q1 := Lib.hid q1
  replace q2 := Lib.hid q2
  replace q3 := Lib.hid q3
  replace q4 := Lib.hid q4
  replace q5 := Lib.hid q5
  replace q6 := Lib.hid q6
  have hbb : Below w.heap.size w w := Below.refl _ _
  go_enter Try.func7, Try.ntmps7
  go_upto_region 1 with fail
  go_cut [5] from 14 (fun s5 wx => s5 = .string (str T) ∧ w = wx)
  case first =>
    by_cases h : a1.size ≤ 300
    · have e := hx2.out h
      go_wp2
      go_meet
      case rel => exact ⟨rfl, rfl⟩
    · have e := hx.out
      go_wp2
      go_meet
      case rel => exact ⟨rfl, rfl⟩
  case rest =>
    obtain ⟨rfl, rfl⟩ := hcut
    go_wp2_with (first | (go_at_call 17; (with_reducible refine (c1 _).mono ?_); rintro e w1 ⟨rfl, b1⟩; replace hbb := belowCont hbb b1) | (go_at_call 19; (with_reducible refine (c3 _).mono ?_); rintro e w1 ⟨rfl, b1⟩; replace hbb := belowCont hbb b1) | (go_at_call 21; (with_reducible refine (c5 _).mono ?_); rintro e w1 ⟨rfl, b1⟩; replace hbb := belowCont hbb b1) | (go_at_call 22; (with_reducible refine (c7 _).mono ?_); rintro e w1 ⟨rfl, b1⟩; replace hbb := belowCont hbb b1) | (go_at_call 26; clear b1; (with_reducible refine (read_any _ _).mono ?_); rintro e w3 ⟨rfl, h3, b3⟩; have h4 : RdAt w3 _ L 0 := (by rw [hL]; simpa [str, List.append_assoc] using h3); clear h3; replace h4 := Lib.hid h4; have hg := hbb.size; replace hbb := belowCont hbb b3) | (go_at_call 27; (with_reducible refine (q1.out _ _ h4.out).mono ?_); rintro e w5 ⟨rfl, h5, k5⟩; replace hbb := belowKeeps hbb k5 (by simpa using hg); replace h5 := Lib.hid h5) | (go_at_call 28; (with_reducible refine (q2.out _ _ h5.out).mono ?_); rintro e w6 ⟨rfl, h6, k6⟩; replace hbb := belowKeeps hbb k6 (by simpa using hg); replace h6 := Lib.hid h6) | (go_at_call 29; (with_reducible refine (q3.out _ _ h6.out).mono ?_); rintro e w7 ⟨rfl, h7, k7⟩; replace hbb := belowKeeps hbb k7 (by simpa using hg); replace h7 := Lib.hid h7) | (go_at_call 30; (with_reducible refine (q4.out _ _ h7.out).mono ?_); rintro e w8 ⟨rfl, h8, k8⟩; replace hbb := belowKeeps hbb k8 (by simpa using hg); replace h8 := Lib.hid h8) | (go_at_call 17; (with_reducible refine (c9 _).mono ?_); rintro e w9 ⟨rfl, b9⟩; replace hbb := belowCont hbb b9; replace h8 := Lib.hid (h8.out.below b9); have hne9 := block_lt h8.out) | (refine wpList_conv_bytes rfl _ rfl (A ++ [b]) rfl ?_; intro wA cap hat bA hcap; obtain ⟨hcb, hfz⟩ := last_at hat; have htx := last_put hat hb.out hc.out cap; replace hat := Lib.hid hat; replace h8 := Lib.hid (h8.out.below bA); have hneA := block_lt h8.out; replace h8 := Lib.hid (h8.out.keep ((Keeps.refl [w9.heap.size] wA).setCell (p := ⟨w9.heap.size, A.length, none⟩) (Or.inl (by simp)) (.int .u8 ((b.toNat : Int) + 128))) (by simp; omega)); replace hbb := (belowCont hbb bA).setCell (p := ⟨w9.heap.size, A.length, none⟩) hbb.size (.int .u8 ((b.toNat : Int) + 128))) | (go_at_call 26; (with_reducible refine (read_any _ _).mono ?_); rintro e wR ⟨rfl, hR, bR⟩; have hR3 : RdAt wR wA.heap.size (A ++ [c] ++ [0]) 0 := (by simpa [str, World.size_setCell] using hR); clear hR; have hR2 := Lib.hid hR3; clear hR3; have hgR : w.heap.size ≤ wA.heap.size := (by simpa [World.size_setCell] using hbb.size); replace hbb := belowCont hbb bR; replace h8 := Lib.hid (h8.out.below bR)) | (go_at_call 27; (with_reducible refine (q5.out _ _ hR2.out).mono ?_); rintro e wS ⟨rfl, hS, kS⟩; replace hbb := belowKeeps hbb kS (by simpa using hgR); replace h8 := Lib.hid (h8.out.keep kS (by simp; omega)); replace hS := Lib.hid hS) | (go_at_call 16; (with_reducible refine (awake_any _).mono ?_); rintro e wT ⟨rfl, bT⟩; replace hbb := belowCont hbb bT; replace h8 := Lib.hid (h8.out.below bT); replace hS := Lib.hid (hS.out.below bT)) | (go_at_call 31; (with_reducible refine (q6.out _ _ h8.out).mono ?_); rintro e wU ⟨rfl, kU⟩; replace hbb := belowKeeps hbb kU (by simpa using hg); replace hS := Lib.hid (hS.out.keep kU (by simp; omega))) | (go_at_call 32; (with_reducible refine (err_any hS.out).mono ?_); rintro e wV ⟨rfl, bV⟩; replace hbb := belowCont hbb bV))
    go_ret
    exact ⟨rfl, hbb⟩
end Go.Proofs.Ytfgefcnllbganaa.code
