/- So many texts are noted, and no more, unless two of them have one sum: the law. The table of salts is a premise. No other condition. -/
import Derived.Test.YtaldakkbfbpnkaaDoorBookReal
import Derived.StillTailTactics
namespace Go.Proofs.YtaldakkbfbpnkaaDoor.sha
open Go.RowKit
attribute [local go_sem ↓] Go.wp_at_zero Go.wp_at_succ
attribute [local go_sem] str_size
set_option linter.unusedVariables false
set_option maxRecDepth 100000

/-- the i-th text: four bytes -/
def txtN (k : Nat) : List UInt8 := [UInt8.ofNat (k % 256), UInt8.ofNat (k / 256 % 256), UInt8.ofNat (k / 65536 % 256), UInt8.ofNat (k / 16777216 % 256)]
def txt (F i : Nat) : List UInt8 := txtN ((F + i) % 4294967296)
theorem ofNat_inj {a b : Nat} (ha : a < 256) (hb : b < 256) (h : UInt8.ofNat a = UInt8.ofNat b) : a = b := by
  have := congrArg UInt8.toNat h
  rwa [UInt8.toNat_ofNat', UInt8.toNat_ofNat', Nat.mod_eq_of_lt ha, Nat.mod_eq_of_lt hb] at this
theorem txt_inj {F i j : Nat} (hi : i < 100000) (hj : j < 100000) (h : txt F i = txt F j) : i = j := by
  unfold txt txtN at h
  obtain ⟨x, hx⟩ : ∃ x, x = (F + i) % 4294967296 := ⟨_, rfl⟩
  obtain ⟨y, hy⟩ : ∃ x, x = (F + j) % 4294967296 := ⟨_, rfl⟩
  rw [← hx, ← hy] at h
  simp only [List.cons.injEq, and_true] at h
  obtain ⟨h0, h1, h2, h3⟩ := h
  have e0 := ofNat_inj (Nat.mod_lt _ (by decide)) (Nat.mod_lt _ (by decide)) h0
  have e1 := ofNat_inj (Nat.mod_lt _ (by decide)) (Nat.mod_lt _ (by decide)) h1
  have e2 := ofNat_inj (Nat.mod_lt _ (by decide)) (Nat.mod_lt _ (by decide)) h2
  have e3 := ofNat_inj (Nat.mod_lt _ (by decide)) (Nat.mod_lt _ (by decide)) h3
  clear h0 h1 h2 h3
  have hxl : x < 4294967296 := by omega
  have hyl : y < 4294967296 := by omega
  have hxy : x = y := by omega
  omega
theorem txt_len (F i : Nat) : (txt F i).length = 4 := rfl
structure Many (F : Nat) (st : BSt) (i : Nat) : Prop where
  len : st.c ≤ 8192
  sum : ∀ k t, st.f k = some t → k = shaB salts t ∧ ∃ j, j < i ∧ t = txt F j
  twin : st.tw = true → st.x ≠ st.y ∧ shaB salts st.x = shaB salts st.y ∧ st.x.length = 4 ∧ st.y.length = 4
  all : st.tw = false → st.c = min i 8192 ∧ st.fu = decide (8192 < i)
theorem Many.none (F : Nat) : Many F .none 0 := ⟨by decide, (fun _ _ h => by cases h), (fun h => by cases h), (fun _ => ⟨rfl, rfl⟩)⟩
theorem Many.next {F i : Nat} {st : BSt} (h : Many F st i) (hi : i < 10000) : Many F (noteS st (shaB salts (txt F i)) (txt F i)) (i + 1) := by
  have more : ∀ k t, st.f k = some t → k = shaB salts t ∧ ∃ j, j < i + 1 ∧ t = txt F j := fun k t hk => by
    obtain ⟨a, j, b, c⟩ := h.sum k t hk
    exact ⟨a, j, by omega, c⟩
  cases htw : st.tw
  · obtain ⟨a1, a2⟩ := h.all htw
    have hne : ¬ st.tw = true := by rw [htw]; decide
    cases hf : st.f (shaB salts (txt F i)) with
    | some t =>
      obtain ⟨e1, j, e2, e3⟩ := h.sum _ _ hf
      have hts : t ≠ txt F i := fun e => by rw [e3] at e; have := txt_inj (by omega) (by omega) e; omega
      have e : noteS st (shaB salts (txt F i)) (txt F i) = st.twin t (txt F i) := by unfold noteS; rw [if_neg hne, hf]; simp [hts]
      rw [e]
      exact ⟨h.len, more, (fun _ => ⟨hts, e1.symm, by show t.length = 4; rw [e3]; rfl, rfl⟩), (fun hh => by cases hh)⟩
    | none =>
      by_cases h8 : 8192 ≤ st.c
      · have e : noteS st (shaB salts (txt F i)) (txt F i) = st.brim := by unfold noteS; rw [if_neg hne, hf]; simp [h8]
        rw [e]
        exact ⟨h.len, more, (fun hh => absurd hh hne), (fun _ => ⟨by show st.c = _; omega, by show true = _; rw [decide_eq_true]; omega⟩)⟩
      · have e : noteS st (shaB salts (txt F i)) (txt F i) = st.more (shaB salts (txt F i)) (txt F i) := by unfold noteS; rw [if_neg hne, hf]; simp [h8]
        rw [e]
        refine ⟨by show st.c + 1 ≤ 8192; omega, ?_, (fun hh => absurd hh hne), (fun _ => ⟨by show st.c + 1 = _; omega, ?_⟩)⟩
        · intro k t hk
          by_cases ek : k = shaB salts (txt F i)
          · simp [BSt.more, ek] at hk; subst hk; exact ⟨ek, i, by omega, rfl⟩
          · simp [BSt.more, ek] at hk; exact more k t hk
        · show st.fu = _
          rw [a2]; apply decide_eq_decide.mpr; omega
  · have e : noteS st (shaB salts (txt F i)) (txt F i) = st := by unfold noteS; rw [if_pos htw]
    rw [e]
    exact ⟨h.len, more, h.twin, (fun hh => by rw [htw] at hh; cases hh)⟩
theorem and3 (x : Int) : bits .and .i64 x 3 = x % 4 := and_3 x
set_option maxHeartbeats 4000000 in
theorem bookMany_walk (a0 : Int) (a1 : Int) (w : World) (w0 : (Lit.int .i64 a0).wf = true) (w1 : (Lit.int .u32 a1).wf = true) (hT : SaltAt w salts) :
    Calls Tryd.prog 12 #[.int .i64 a0, .int .u32 a1] w fun e w' => e = .returned (.bool true) ∧ Below w.heap.size w w' := by
  obtain ⟨F, rfl, hF⟩ : ∃ n : Nat, a1 = (n : Int) ∧ n < 4294967296 := by
    have : 0 ≤ a1 ∧ a1 ≤ 4294967295 := by simpa [Lit.wf, IntKind.min, IntKind.max, IntKind.signed, IntKind.bits] using w1
    exact ⟨a1.toNat, by omega, by omega⟩
  have e1 := and_3 a0
  obtain ⟨r, hr, hr4⟩ : ∃ r : Nat, a0 % 4 = (r : Int) ∧ r < 4 := ⟨(a0 % 4).toNat, by omega, by omega⟩
  rw [hr] at e1
  clear hr w0 w1
  obtain ⟨n, hn⟩ : ∃ n, n = 8192 + r := ⟨_, rfl⟩
  have e2 : IntKind.i64.wrap (8192 + (r : Int)) = (n : Int) := by rw [IntKind.wrap_i64]; omega
  have e2c : wrap64 (8192 + (r : Int)) = (n : Int) := by unfold wrap64; omega
  replace hT := Lib.hid hT; replace hF := Lib.hid hF
  go_enter Tryd.func12, Tryd.ntmps12
  go_wp2_with (go_at_call 37; (with_reducible refine (bnew_any _).mono ?_); rintro e w1 ⟨rfl, h1, b1⟩; replace h1 := Lib.hid h1; replace b1 := Lib.hid b1)
  have hM0 := Many.none F
  go_loopg [7] n (fun gn s7 wr => ∃ (i : Nat) (st : BSt), s7 = .int .i64 (i : Int) ∧ i + gn = n ∧ BookAt wr (w.heap.size + 1) w.heap.size st ∧ Many F st i ∧ Below w.heap.size w wr)
  case atStart => exact ⟨0, .none, rfl, by omega, h1.out, hM0, b1.out⟩
  case round =>
    clear h1 b1 hM0
    obtain ⟨i, st, rfl, hik, hB, hM, hb⟩ := hrel
    replace hB := Lib.hid hB; replace hM := Lib.hid hM; replace hb := Lib.hid hb; replace hik := Lib.hid hik; replace hn := Lib.hid hn
    by_cases hi : i < n
    · obtain ⟨K, rfl⟩ : ∃ K : Nat, gk = K + 1 := ⟨gk - 1, by have := hik.out; omega⟩
      have f1 : (i : Int) < 8192 + (r : Int) := by have := hn.out; omega
      have hi5 : i < 10000 := by have := hn.out; omega
      obtain ⟨kn, hkn⟩ : ∃ k, k = (F + i) % 4294967296 := ⟨_, rfl⟩
      have hkl : kn < 4294967296 := by omega
      have g1 : IntKind.u32.wrap (i : Int) = (i : Int) := by rw [IntKind.wrap_u32]; omega
      have g2 : IntKind.u32.wrap ((F : Int) + (i : Int)) = (kn : Int) := by rw [IntKind.wrap_u32]; omega
      obtain ⟨v0, hv0⟩ : ∃ v : Nat, v = kn % 256 := ⟨_, rfl⟩
      obtain ⟨v1, hv1⟩ : ∃ v : Nat, v = kn / 256 % 256 := ⟨_, rfl⟩
      obtain ⟨v2, hv2⟩ : ∃ v : Nat, v = kn / 65536 % 256 := ⟨_, rfl⟩
      obtain ⟨v3, hv3⟩ : ∃ v : Nat, v = kn / 16777216 % 256 := ⟨_, rfl⟩
      have hT4 : txt F i = [UInt8.ofNat v0, UInt8.ofNat v1, UInt8.ofNat v2, UInt8.ofNat v3] := by rw [hv0, hv1, hv2, hv3, hkn]; rfl
      have ev0 : (kn : Int) % 256 = (v0 : Int) := by omega
      have ev1 : (kn : Int) / 256 % 256 = (v1 : Int) := by omega
      have ev2 : (kn : Int) / 65536 % 256 = (v2 : Int) := by omega
      have ev3 : (kn : Int) / 16777216 % 256 = (v3 : Int) := by omega
      have ew0 : IntKind.u8.wrap (kn : Int) = (v0 : Int) := by rw [IntKind.wrap_u8]; omega
      have ew1 : IntKind.u8.wrap ((kn : Int) / 256) = (v1 : Int) := by rw [IntKind.wrap_u8]; omega
      have ew2 : IntKind.u8.wrap ((kn : Int) / 65536) = (v2 : Int) := by rw [IntKind.wrap_u8]; omega
      have ew3 : IntKind.u8.wrap ((kn : Int) / 16777216) = (v3 : Int) := by rw [IntKind.wrap_u8]; omega
      have cvA : ∀ X : World, (convert 23 9 (.slice (some ⟨X.heap.size, 0, none⟩) 4 4)).run Tryd.prog (X.alloc (.cells #[.int .u8 (v0 : Int), .int .u8 (v1 : Int), .int .u8 (v2 : Int), .int .u8 (v3 : Int)] 5)) = .ok (.string (str [UInt8.ofNat v0, UInt8.ofNat v1, UInt8.ofNat v2, UInt8.ofNat v3])) (X.alloc (.cells #[.int .u8 (v0 : Int), .int .u8 (v1 : Int), .int .u8 (v2 : Int), .int .u8 (v3 : Int)] 5)) := fun X => conv_four _ _ (v0 : Int) (v1 : Int) (v2 : Int) (v3 : Int) (heap_alloc_new X _)
      have hMn := hM.out.next hi5
      have hc := hM.out.len
      have c1 : ∀ w', BookAt w' (w.heap.size + 1) w.heap.size st → SaltAt w' salts → Calls Tryd.prog 34 #[.pointer (some ⟨w.heap.size + 1, 0, none⟩), .string (str (txt F i))] w' fun e w2 => e = .returned (.string (str (shaB salts (txt F i)))) ∧ BookAt w2 (w.heap.size + 1) w.heap.size (noteS st (shaB salts (txt F i)) (txt F i)) ∧ Keeps [w.heap.size + 1, w.heap.size] w' w2 := fun w' h h2 => bsum_any (txt F i) (by rw [txt_len]; decide) w' h hc h2
      obtain ⟨S, hSS⟩ : ∃ V, V = shaB salts (txt F i) := ⟨_, rfl⟩
      rw [← hSS] at c1 hMn
      obtain ⟨st2, hst2⟩ : ∃ s, s = noteS st S (txt F i) := ⟨_, rfl⟩
      rw [← hst2] at c1 hMn
      rw [hT4] at c1
      clear hSS hst2 hT4 hv0 hv1 hv2 hv3 hkn hi hc hkl
      replace c1 := Lib.hid c1; replace hMn := Lib.hid hMn; replace hi5 := Lib.hid hi5
      go_wp2_with (go_at_call 34; (with_reducible refine (c1.out _ (hB.out.below ((Below.refl _ _).alloc (Nat.le_refl _) _)) (hT.out.keep (hb.out.alloc hb.out.size _))).mono ?_); rintro e w2 ⟨rfl, h2, k2⟩; have hb2 := Lib.hid ((hb.out.alloc hb.out.size _).trans (k2.below (hb.out.alloc hb.out.size _).size (by intro x hx; simp at hx; rcases hx with rfl | rfl; exact Nat.le_succ _; exact Nat.le_refl _))); replace h2 := Lib.hid h2; clear k2)
      go_roundg K
      case measure => omega
      case rel => exact ⟨i + 1, st2, by first | (have h3 := hi5.out; go_num) | (have h3 := hi5.out; simp; unfold wrap64; omega), by have := hik.out; omega, h2.out, hMn.out, hb2.out⟩
    · have f1 : ¬ (i : Int) < 8192 + (r : Int) := by have := hn.out; omega
      have hin : i = n := by have := hik.out; omega
      clear hi
      have hS : ∀ w2, Below wr.heap.size wr w2 → BookAt w2 (w.heap.size + 1) w.heap.size st ∧ Below w.heap.size w w2 := fun w2 b => ⟨hB.out.below b, belowCont hb.out b⟩
      have hbb := Below.refl wr.heap.size wr
      replace hbb := Lib.hid hbb; replace hS := Lib.hid hS
      obtain ⟨rp, hrp⟩ : ∃ b, decide (0 < r) = b := ⟨_, rfl⟩
      have hrp1 : (0 < r) = (rp = true) := by rw [← hrp]; simp
      have hrp2 : (0 < (r : Int)) = (rp = true) := by rw [← hrp1]; simp
      have hrp3 : decide (0 < (r : Int)) = rp := by rw [← hrp]; simp
      cases htw : st.tw
      · obtain ⟨a1, a2⟩ := hM.out.all htw
        have hfu : st.fu = rp := by rw [a2, ← hrp]; apply decide_eq_decide.mpr; have := hn.out; omega
        have hcc : st.c = 8192 := by rw [a1]; have := hn.out; omega
        have c1 : ∀ w', BookAt w' (w.heap.size + 1) w.heap.size st → Calls Tryd.prog 31 #[.pointer (some ⟨w.heap.size + 1, 0, none⟩)] w' fun e w2 => e = .returned (.tuple #[.string (str st.x), .string (str st.y), .bool false]) ∧ Below w'.heap.size w' w2 := fun w' h => by
          have := btwins_any w' h
          rw [htw] at this; exact this
        have c2 : ∀ w', BookAt w' (w.heap.size + 1) w.heap.size st → Calls Tryd.prog 35 #[.pointer (some ⟨w.heap.size + 1, 0, none⟩)] w' fun e w2 => e = .returned (.int .i64 8192) ∧ Below w'.heap.size w' w2 := fun w' h => by
          have := blen_any w' h
          rw [hcc] at this; exact this
        have c3 : ∀ w', BookAt w' (w.heap.size + 1) w.heap.size st → Calls Tryd.prog 36 #[.pointer (some ⟨w.heap.size + 1, 0, none⟩)] w' fun e w2 => e = .returned (.bool rp) ∧ Below w'.heap.size w' w2 := fun w' h => by
          have := bfull_any w' h
          rw [hfu] at this; exact this
        clear a1 a2 hfu hcc htw hrp hin
        replace c1 := Lib.hid c1; replace c2 := Lib.hid c2; replace c3 := Lib.hid c3
        cases rp
        all_goals go_wp2_with (first
          | (go_at_call 31; (with_reducible refine (c1.out _ (hS.out _ hbb.out).1).mono ?_); rintro e w3 ⟨rfl, b3⟩; replace hbb := Lib.hid (belowCont hbb.out b3); clear b3)
          | (go_at_call 35; (with_reducible refine (c2.out _ (hS.out _ hbb.out).1).mono ?_); rintro e w3 ⟨rfl, b3⟩; replace hbb := Lib.hid (belowCont hbb.out b3); clear b3)
          | (go_at_call 36; (with_reducible refine (c3.out _ (hS.out _ hbb.out).1).mono ?_); rintro e w3 ⟨rfl, b3⟩; replace hbb := Lib.hid (belowCont hbb.out b3); clear b3)
          | (go_at_call 32; (with_reducible refine (bawake_any _ (hT.out.keep (hS.out _ hbb.out).2)).mono ?_); rintro e w3 ⟨rfl, b3⟩; replace hbb := Lib.hid (belowCont hbb.out b3); clear b3))
        all_goals go_outline
        all_goals go_ret
        all_goals exact ⟨rfl, (hS.out _ hbb.out).2⟩
      · obtain ⟨hne, hsum, hxl, hyl⟩ := hM.out.twin htw
        have c1 : ∀ w', BookAt w' (w.heap.size + 1) w.heap.size st → Calls Tryd.prog 31 #[.pointer (some ⟨w.heap.size + 1, 0, none⟩)] w' fun e w2 => e = .returned (.tuple #[.string (str st.x), .string (str st.y), .bool true]) ∧ Below w'.heap.size w' w2 := fun w' h => by
          have := btwins_any w' h
          rw [htw] at this; exact this
        have c2 := fun w' => rsum_any st.x (by omega) w'
        have c3 := fun w' => rsum_any st.y (by omega) w'
        rw [← hsum] at c3
        have f1 : ((str st.x).toList == (str st.y).toList) = false := by rw [str_bl, str_bl]; exact beq_eq_false_iff_ne.mpr hne
        obtain ⟨S, hSS⟩ : ∃ V, V = str (shaB salts st.x) := ⟨_, rfl⟩
        rw [← hSS] at c2 c3
        obtain ⟨X, hX⟩ : ∃ V, V = str st.x := ⟨_, rfl⟩
        obtain ⟨Y, hY⟩ : ∃ V, V = str st.y := ⟨_, rfl⟩
        rw [← hX] at c1 c2 f1
        rw [← hY] at c1 c3 f1
        have f2 : (S.toList == S.toList) = true := by simp
        clear hne hsum hxl hyl htw hSS hX hY hrp hin hrp1 hrp2 hrp3
        replace c1 := Lib.hid c1; replace c2 := Lib.hid c2; replace c3 := Lib.hid c3
        go_wp2_with (first
          | (go_at_call 31; (with_reducible refine (c1.out _ (hS.out _ hbb.out).1).mono ?_); rintro e w3 ⟨rfl, b3⟩; replace hbb := Lib.hid (belowCont hbb.out b3); clear b3)
          | (go_at_call 20; (with_reducible refine (c2.out _).mono ?_); rintro e w3 ⟨rfl, b3⟩; replace hbb := Lib.hid (belowCont hbb.out b3); clear b3)
          | (go_at_call 20; (with_reducible refine (c3.out _).mono ?_); rintro e w3 ⟨rfl, b3⟩; replace hbb := Lib.hid (belowCont hbb.out b3); clear b3)
          | (go_at_call 32; (with_reducible refine (bawake_any _ (hT.out.keep (hS.out _ hbb.out).2)).mono ?_); rintro e w3 ⟨rfl, b3⟩; replace hbb := Lib.hid (belowCont hbb.out b3); clear b3))
        all_goals go_outline
        all_goals go_ret
        all_goals exact ⟨rfl, (hS.out _ hbb.out).2⟩
end Go.Proofs.YtaldakkbfbpnkaaDoor.sha
