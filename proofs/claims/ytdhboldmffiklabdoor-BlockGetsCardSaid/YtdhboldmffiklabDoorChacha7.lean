/- ChaCha20 (package chacha): bytes turned. No condition. -/
import Derived.Test.YtdhboldmffiklabDoorChacha6
namespace Go.Proofs.YtdhboldmffiklabDoor.chacha
open Go.RowKit
attribute [local go_sem ↓] Go.wp_at_zero Go.wp_at_succ
set_option linter.unusedVariables false
set_option maxRecDepth 100000

/-- what stands while bytes are turned: the state, and the bytes -/
def Tn (w wr : World) (S q : Nat) (xs : List Nat) (l : List UInt8) : Prop :=
  Words wr S 236 xs ∧ BytesAt wr q l ∧ S < q ∧ w.heap.size ≤ S ∧ Below w.heap.size w wr
theorem turnedL_full (key nonce : ByteArray) (l : List UInt8) (m : Nat) (h : l.length ≤ m) : turnedL key nonce l m = turnedL key nonce l l.length := by
  apply List.ext_getElem
  · simp [turnedL]
  · intro i h1 h2
    have h3 : i < l.length := by rw [turnedL_len] at h2; exact h2
    simp only [turnedL, List.getElem_mapIdx]
    rw [if_pos h3, if_pos (by omega)]
theorem Tn.next {w wr w1 : World} {S q X : Nat} {xs : List Nat} {l : List UInt8} (h : Tn w wr S q xs l) (k : Keeps [X] wr w1) (hX : q < X) : Tn w w1 S q xs l :=
  ⟨h.1.keep k (by have := h.2.2.1; simp; omega), h.2.1.keep k (by simp; omega), h.2.2.1, h.2.2.2.1, h.2.2.2.2.trans (k.below h.2.2.2.2.size (by have := h.2.2.1; have := h.2.2.2.1; simp; omega))⟩
theorem Tn.below {w wr w1 : World} {S q : Nat} {xs : List Nat} {l : List UInt8} (h : Tn w wr S q xs l) (k : Below wr.heap.size wr w1) : Tn w w1 S q xs l :=
  ⟨h.1.below k, h.2.1.below k, h.2.2.1, h.2.2.2.1, belowCont h.2.2.2.2 k⟩
theorem Tn.state {w wr : World} {S q : Nat} {xs : List Nat} {l : List UInt8} (h : Tn w wr S q xs l) (n : Nat) : Tn w (wr.setCell ⟨S, 12, none⟩ (.int .u32 (n : Int))) S q (xs.set 12 n) l :=
  ⟨h.1.put 12 n, h.2.1.keep ((Keeps.refl [S] wr).setCell (p := ⟨S, 12, none⟩) (Or.inl (by simp)) _) (by have := h.2.2.1; simp; omega), h.2.2.1, h.2.2.2.1, h.2.2.2.2.setCell (p := ⟨S, 12, none⟩) h.2.2.2.1 _⟩

set_option maxRecDepth 100000 in
set_option maxHeartbeats 4000000 in
theorem turn_any (key nonce : ByteArray) (l : List UInt8) (hk : key.size = 32) (hn : nonce.size = 12) (hl : l.length ≤ 1000000000) (w : World) :
    Calls Tryd.prog 124 #[.string key, .string nonce, .string (str l)] w fun e w' => e = .returned (.string (str (turnedL key nonce l l.length))) ∧ Below w.heap.size w w' := by
  have hmay : ∀ w', Calls Tryd.prog 123 #[.string key, .string nonce] w' fun e w2 => e = .returned (.bool true) ∧ Below w'.heap.size w' w2 := fun w' => by
    have := may_any key nonce w'
    simpa [hk, hn] using this
  have hbeg := fun w' => begun_any key nonce hk hn w'
  have hlen := (begun_good key nonce).1
  obtain ⟨xs, hxs⟩ : ∃ xs, xs = begunL key nonce := ⟨_, rfl⟩
  rw [← hxs] at hbeg hlen
  clear hk hn
  replace hbeg := Lib.hid hbeg
  replace hmay := Lib.hid hmay
  replace hlen := Lib.hid hlen
  replace hxs := Lib.hid hxs
  replace hl := Lib.hid hl
  go_enter Tryd.func124, Tryd.ntmps124
  go_wp2_with (first
    | (go_at_call 123; (with_reducible refine (hmay.out _).mono ?_); rintro e w1 ⟨rfl, b1⟩; replace b1 := Lib.hid b1)
    | (go_at_call 177; (with_reducible refine (hbeg.out _).mono ?_); rintro e w2 ⟨rfl, b2⟩; replace b2 := Lib.hid (belowCont b1.out b2))
    | (refine wpList_store_words rfl (.tmp 7) (.tmp 19) rfl _ xs rfl rfl hlen.out ⟨_, heap_alloc_new _ _, rfl⟩ ?_; intro w3 W3 K3; replace K3 := Lib.hid (belowNew b2.out K3); replace W3 := Lib.hid W3)
    | (refine wpList_conv_bytes rfl (.tmp 20) rfl l rfl ?_; intro w4 cap B4 b4 hcap; replace b4 := Lib.hid b4; replace B4 := Lib.hid B4; replace hcap := Lib.hid hcap))
  have hT : Tn w w4 w2.heap.size w3.heap.size xs l := ⟨W3.out.below b4.out, B4.out, block_lt W3.out, b2.out.size, belowCont K3.out b4.out⟩
  obtain ⟨S, hS⟩ : ∃ S, S = w2.heap.size := ⟨_, rfl⟩
  obtain ⟨q, hq⟩ : ∃ q, q = w3.heap.size := ⟨_, rfl⟩
  rw [← hS, ← hq] at hT ⊢
  clear W3 B4 K3 b4 b2 b1 hS hq
  have hT0 : Tn w w4 S q (stAt key nonce 0) (turnedL key nonce l (64 * 0)) := by rw [stAt_zero, ← hxs.out, turnedL_zero]; exact hT
  clear hT
  replace hT0 := Lib.hid hT0
  obtain ⟨m, hm⟩ : ∃ m : Nat, m = (l.length + 63) / 64 := ⟨_, rfl⟩
  replace hm := Lib.hid hm
  go_loopg [9] m (fun gn s9 wr => ∃ i : Nat, s9 = .int .i64 (64 * (i : Int)) ∧ i + gn = m ∧ Tn w wr S q (stAt key nonce i) (turnedL key nonce l (64 * i)))
  case atStart => exact ⟨0, rfl, by omega, hT0.out⟩
  case round =>
    obtain ⟨i, rfl, hi, hT⟩ := hrel
    have hlo := hl.out
    have hmo := hm.out
    by_cases h0 : gk = 0
    · obtain rfl : i = m := by omega
      have hge : ¬ (64 * (i : Int) < (l.length : Int)) := by omega
      have hconv : (convert 52 9 (.slice (some ⟨q, 0, none⟩) l.length cap)).run Tryd.prog wr = .ok (.string (str (turnedL key nonce l l.length))) wr := by
        have := hT.2.1.text cap
        rwa [turnedL_len, turnedL_full key nonce l (64 * i) (by omega)] at this
      replace hT := Lib.hid hT
      clear hlo hmo h0 hi
      go_wp2
      go_ret
      exact ⟨rfl, hT.out.2.2.2.2⟩
    · obtain ⟨K, rfl⟩ : ∃ K : Nat, gk = K + 1 := ⟨gk - 1, by omega⟩
      have hi2 := Lib.hid hi
      have hlt : 64 * (i : Int) < (l.length : Int) := by omega
      have hi0 : (0 : Int) ≤ 64 * (i : Int) := by omega
      have hw64 : IntKind.i64.wrap (64 * (i : Int) + 64) = 64 * (i : Int) + 64 := by rw [IntKind.wrap_i64]; omega
      have hwu : ((i : Int) + 1) % 4294967296 = (i : Int) + 1 := by omega
      have hst := fun w' => stirred_any (stAt key nonce i) (stAt_good key nonce i (by omega)) w'
      obtain ⟨ys, hys⟩ : ∃ ys, ys = stAt key nonce i := ⟨_, rfl⟩
      obtain ⟨us, hus⟩ : ∃ us, us = turnedL key nonce l (64 * i) := ⟨_, rfl⟩
      have hyl : ys.length = 16 := by rw [hys]; exact (stAt_good key nonce i (by omega)).1
      have hy12 : ys.getD 12 0 = i := by rw [hys]; exact stAt_12 key nonce i
      rw [← hys] at hst hT
      rw [← hus] at hT
      obtain ⟨bs, hbs⟩ : ∃ bs, bs = blockL ys := ⟨_, rfl⟩
      have hbl : bs.length = 64 := by rw [hbs]; exact blockL_len ys
      rw [← hbs] at hst
      replace hst := Lib.hid hst
      replace hT := Lib.hid hT
      replace hys := Lib.hid hys
      replace hus := Lib.hid hus
      replace hbs := Lib.hid hbs
      replace hyl := Lib.hid hyl
      replace hbl := Lib.hid hbl
      replace hy12 := Lib.hid hy12
      clear hlo hmo h0 hi
      have hcap1 : (l.length : Int) ≤ (cap : Int) := by have := hcap.out; omega
      have hcap2 : 64 * i ≤ cap := by omega
      obtain ⟨c, hc⟩ : ∃ c : Nat, c = min 64 (l.length - 64 * i) := ⟨_, rfl⟩
      replace hc := Lib.hid hc
      go_upto_region 9 with (first
        | (refine wpList_load_words rfl (.tmp 7) rfl S ys rfl hT.out.1 hyl.out ?_)
        | (go_at_call 178; (with_reducible refine (hst.out _).mono ?_); rintro e w5 ⟨rfl, b5⟩; replace hT := Lib.hid (hT.out.below b5); replace b5 := Lib.hid b5)
        | (refine wpList_store_bytes8 rfl (.tmp 10) (.tmp 29) rfl w5.heap.size bs rfl rfl hbl.out ⟨_, heap_alloc_new _ _, rfl⟩ ?_; intro w6 W6 K6; have hqB := hT.out.2.1.1; replace hT := Lib.hid (hT.out.next (((Keeps.refl _ w5).alloc _).trans K6) hT.out.2.1.1); replace W6 := Lib.hid W6; clear K6))
      obtain ⟨B, hB⟩ : ∃ B, B = w5.heap.size := ⟨_, rfl⟩
      rw [← hB] at W6 hqB ⊢
      clear hB b5
      replace hqB := Lib.hid hqB
      have c6 := hT.out.1.cell (i := 12) (by rw [hyl.out]; decide)
      rw [hy12.out] at c6
      have f6 := hT.out.1.free 12
      have hU := hT.out.state (i + 1)
      rw [show ((i + 1 : Nat) : Int) = (i : Int) + 1 by omega] at hU
      have hV := W6.out.keep ((Keeps.refl [S] w6).setCell (p := ⟨S, 12, none⟩) (Or.inl (by simp)) (.int .u32 ((i : Int) + 1))) (by have := hT.out.2.2.1; have := hqB.out; simp; omega)
      replace hU := Lib.hid hU
      replace hV := Lib.hid hV
      go_upto_region 10 with fail
      clear c6 f6
      obtain ⟨w7, hw7⟩ : ∃ w7, w7 = w6.setCell ⟨S, 12, none⟩ (.int .u32 ((i : Int) + 1)) := ⟨_, rfl⟩
      rw [← hw7] at hU hV ⊢
      clear hw7 hT W6
      go_cut [11] from 22 to 56 (fun v wx => v = .slice (some ⟨q, 64 * i, none⟩) c (cap - 64 * i) ∧ wx = w7)
      case first =>
        have z1 : (0 : Int) ≤ 64 * (i : Int) + 64 := by omega
        by_cases hcc : 64 * (i : Int) + 64 ≤ (l.length : Int)
        · have z2 : 64 * (i : Int) + 64 ≤ (cap : Int) := by omega
          have z3 : ¬ (cap = 64 * i) := by omega
          go_wp2
          try go_meet
          exact ⟨by rw [hc.out, Nat.min_eq_left (by omega), Nat.add_sub_cancel_left], rfl⟩
        · have z3 : ¬ (cap = 64 * i) := by omega
          go_wp2
          try go_meet
          exact ⟨by rw [hc.out, Nat.min_eq_right (by omega)], rfl⟩
      case rest =>
      obtain ⟨rfl, rfl⟩ := hcut
      have hc0 := hc.out
      have hil : 64 * i + c ≤ l.length := by omega
      have hc64 : c ≤ 64 := by omega
      replace hc0 := Lib.hid hc0
      clear hlt hi0 hw64 hwu hcap1 hcap2 hst
      replace hil := Lib.hid hil
      replace hc64 := Lib.hid hc64
      go_upto_region 12 with fail
      have hU0 : Tn w wc S q (ys.set 12 (i + 1)) (turnedL key nonce l (64 * i + 0)) := by
        show Tn w wc S q (ys.set 12 (i + 1)) (turnedL key nonce l (64 * i))
        have e := hus.out
        subst e
        exact hU.out
      replace hU0 := Lib.hid hU0
      go_loopg [44] c (fun gn s44 wr => ∃ j : Nat, s44 = .int .i64 (j : Int) ∧ j + gn = c ∧ Tn w wr S q (ys.set 12 (i + 1)) (turnedL key nonce l (64 * i + j)) ∧ Bytes8 wr B bs)
      case atStart => exact ⟨0, rfl, by omega, hU0.out, hV.out⟩
      case round =>
        clear hU0 hU hV
        obtain ⟨j, rfl, hj, hU, hV⟩ := hrel
        have hil2 := hil.out
        have hc642 := hc64.out
        by_cases h0 : gk = 0
        · obtain rfl : j = c := by omega
          have hnot : ¬ ((j : Int) < (j : Int)) := by omega
          replace hU := Lib.hid hU
          replace hV := Lib.hid hV
          clear hil2 hc642 h0 hj
          have hw64 : IntKind.i64.wrap (64 * (i : Int) + 64) = 64 * (i : Int) + 64 := by have := hl.out; have := hil.out; rw [IntKind.wrap_i64]; omega
          go_wp2
          go_roundg K
          case measure => omega
          case rel =>
            have h1 := hil.out
            have h2 := hc0.out
            have h3 := hc64.out
            refine ⟨i + 1, by rw [show 64 * (i : Int) + 64 = 64 * ((i + 1 : Nat) : Int) by omega], by have := hi2.out; omega, ?_⟩
            have e : turnedL key nonce l (64 * i + j) = turnedL key nonce l (64 * (i + 1)) := by
              by_cases hj : j = 64
              · rw [hj]; congr 1
              · rw [turnedL_full key nonce l (64 * i + j) (by omega), turnedL_full key nonce l (64 * (i + 1)) (by omega)]
            rw [← e, ← stAt_set key nonce i (i + 1), ← hys.out]
            exact hU.out
        · obtain ⟨K2, rfl⟩ : ∃ K2 : Nat, gk = K2 + 1 := ⟨gk - 1, by omega⟩
          have j1 : (j : Int) < (c : Int) := by omega
          have j0 : (0 : Int) ≤ (j : Int) := by omega
          have j64 : (j : Int) < 64 := by omega
          have hjl : 64 * i + j < l.length := by omega
          have hcell := (hU.2.1.2 (64 * i + j) (by rw [turnedL_len]; exact hjl)).1
          have hfree := (hU.2.1.2 (64 * i + j) (by rw [turnedL_len]; exact hjl)).2
          rw [turnedL_at _ _ _ _ hjl] at hcell
          have hcb := hV.cell (i := j) (by rw [hbl.out]; omega)
          have hpad : bs.getD j 0 = (padAt key nonce (64 * i + j)).toNat := by
            rw [hbs.out, ← blockU_at ys j (by omega), padAt, hys.out]
            have e1 : (64 * i + j) / 64 % 4294967296 = i := by have := hl.out; omega
            have e2 : (64 * i + j) % 64 = j := by omega
            rw [e1, e2]
          rw [hpad] at hcb
          have hput := hU.2.1.put (i := 64 * i + j) (by rw [turnedL_len]; exact hjl) (n := ((l.getD (64 * i + j) 0 ^^^ padAt key nonce (64 * i + j)).toNat : Int)) ⟨by omega, by have := UInt8.toNat_lt (l.getD (64 * i + j) 0 ^^^ padAt key nonce (64 * i + j)); omega⟩
          have hxor := xor_u8 (l.getD (64 * i + j) 0) (padAt key nonce (64 * i + j))
          rw [Int.toNat_natCast, UInt8.ofNat_toNat, turnedL_step key nonce l (64 * i + j) hjl] at hput
          obtain ⟨x1, hx1⟩ : ∃ x, x = l.getD (64 * i + j) 0 := ⟨_, rfl⟩
          obtain ⟨x2, hx2⟩ : ∃ x, x = padAt key nonce (64 * i + j) := ⟨_, rfl⟩
          rw [← hx1] at hcell hxor hput
          rw [← hx2] at hcb hxor hput
          obtain ⟨n1, hn1⟩ : ∃ n : Nat, n = x1.toNat := ⟨_, rfl⟩
          obtain ⟨n2, hn2⟩ : ∃ n : Nat, n = x2.toNat := ⟨_, rfl⟩
          obtain ⟨n3, hn3⟩ : ∃ n : Nat, n = (x1 ^^^ x2).toNat := ⟨_, rfl⟩
          rw [← hn1] at hcell hxor
          rw [← hn2] at hcb hxor
          rw [← hn3] at hxor hput
          clear hx1 hx2 hn1 hn2 hn3 hpad
          replace hput := Lib.hid hput
          replace hU := Lib.hid hU
          replace hV := Lib.hid hV
          have hj2 : j + (K2 + 1) = c := hj
          replace hj2 := Lib.hid hj2
          clear hil2 hc642 h0 hj hjl
          go_upto_region 14 with fail
          go_region
          all_goals go_wp2_with fail
          go_roundg K2
          case measure => omega
          case rel =>
            refine ⟨j + 1, by go_num, by have := hj2.out; omega, ⟨hU.out.1.drew.keep (Keeps.refl [q] _ |>.setCell (p := ⟨q, 64 * i + j, none⟩) (Or.inl (by simp)) _) (by have := hU.out.2.2.1; simp; omega), hput.out, hU.out.2.2.1, hU.out.2.2.2.1, ?_⟩, ?_⟩
            · exact (hU.out.2.2.2.2.setCell (p := ⟨q, 64 * i + j, none⟩) (by have := hU.out.2.2.1; have := hU.out.2.2.2.1; show w.heap.size ≤ q; omega) _).drew
            · exact hV.out.keep ((Keeps.refl [q] wr).setCell (p := ⟨q, 64 * i + j, none⟩) (Or.inl (by simp)) (.int .u8 (n3 : Int))).drew (by have := hqB.out; simp; omega)
end Go.Proofs.YtdhboldmffiklabDoor.chacha
