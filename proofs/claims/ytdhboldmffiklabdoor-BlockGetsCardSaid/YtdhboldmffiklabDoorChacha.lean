/- ChaCha20 (package chacha) and the document's own: blocks of a key and a nonce, and bytes turned by them. No condition. -/
import Derived.Test.YtdhboldmffiklabDoorWords
import Derived.Test.YtdhboldmffiklabDoorBytes2
import Derived.Deep.DeepCutAuto
import Derived.BigRegion
namespace Go.Proofs.YtdhboldmffiklabDoor.chacha
open Go.RowKit
attribute [local go_sem ↓] Go.wp_at_zero Go.wp_at_succ
set_option linter.unusedVariables false
set_option maxRecDepth 100000

def add32 (x y : Nat) : Nat := (x + y) % 4294967296
/-- row xs with word a become x_a + x_b -/
def addTo (xs : List Nat) (a b : Nat) : List Nat := xs.set a (add32 (xs.getD a 0) (xs.getD b 0))
def xorRot (xs : List Nat) (a b s : Nat) : List Nat := xs.set a (rotl (xs.getD a 0 ^^^ xs.getD b 0) s)
def quarterL (xs : List Nat) (a b c d : Nat) : List Nat :=
  let xs := xorRot (addTo xs a b) d a 16
  let xs := xorRot (addTo xs c d) b c 12
  let xs := xorRot (addTo xs a b) d a 8
  xorRot (addTo xs c d) b c 7

theorem addTo_len (xs : List Nat) (a b : Nat) : (addTo xs a b).length = xs.length := by simp [addTo]
theorem xorRot_len (xs : List Nat) (a b s : Nat) : (xorRot xs a b s).length = xs.length := by simp [xorRot]
def Small (xs : List Nat) : Prop := ∀ i, xs.getD i 0 < 4294967296
theorem Small.set {xs : List Nat} (h : Small xs) (i n : Nat) (hn : n < 4294967296) : Small (xs.set i n) := by
  intro j
  have := h j
  simp only [List.getD_eq_getElem?_getD, List.getElem?_set] at this ⊢
  split
  · split <;> simp <;> omega
  · exact this
theorem Small.addTo {xs : List Nat} (h : Small xs) (a b : Nat) : Small (addTo xs a b) := h.set _ _ (Nat.mod_lt _ (by decide))
theorem Small.xorRot {xs : List Nat} (h : Small xs) (a b s : Nat) (hs : s ≤ 32) : Small (xorRot xs a b s) := h.set _ _ (rotl_lt _ _ (Nat.xor_lt_two_pow (n := 32) (h a) (h b)) hs)

set_option maxRecDepth 100000 in
set_option maxHeartbeats 2000000 in
theorem quarter_any (g t : Nat) (xs : List Nat) (a b c d : Nat) (w : World) (h : Words w g t xs) (hl : xs.length = 16) (hx : Small xs) (ha : a < 16) (hb : b < 16) (hc : c < 16) (hd : d < 16) :
    Calls Tryd.prog 204 #[.pointer (some ⟨g, 0, none⟩), .int .i64 (a : Int), .int .i64 (b : Int), .int .i64 (c : Int), .int .i64 (d : Int)] w fun e w' => e = .returned (.tuple #[]) ∧ Words w' g t (quarterL xs a b c d) ∧ Keeps [g] w w' := by
  have a0 : (0 : Int) ≤ a := by omega
  have a1 : (a : Int) < 16 := by omega
  have b0 : (0 : Int) ≤ b := by omega
  have b1 : (b : Int) < 16 := by omega
  have c0 : (0 : Int) ≤ c := by omega
  have c1 : (c : Int) < 16 := by omega
  have d0 : (0 : Int) ≤ d := by omega
  have d1 : (d : Int) < 16 := by omega
  obtain ⟨xs0, e0⟩ : ∃ l, l = xs := ⟨_, rfl⟩
  have h0 : Words w g t xs0 := e0 ▸ h
  have hl0 : xs0.length = 16 := e0 ▸ hl
  have hs0 : Small xs0 := e0 ▸ hx
  have k0 : Keeps [g] w w := Keeps.refl [g] w
  replace e0 := Lib.hid e0
  clear h hl hx
  go_enter Tryd.func204, Tryd.ntmps204
  go_upto_region 0 with fail
  go_cut [] from 10 (fun wx => Words wx g t (addTo xs0 a b) ∧ Keeps [g] w wx)
  case first =>
    have ca := h0.cell (i := a) (by omega)
    have cb := h0.cell (i := b) (by omega)
    have fa := h0.free a
    have hp := h0.put a (add32 (xs0.getD a 0) (xs0.getD b 0))
    have hk := k0.setCell (p := ⟨g, a, none⟩) (Or.inl (by simp)) (.int .u32 ((add32 (xs0.getD a 0) (xs0.getD b 0) : Nat) : Int))
    obtain ⟨y1, e1⟩ : ∃ y, xs0.getD a 0 = y := ⟨_, rfl⟩
    obtain ⟨y2, e2⟩ : ∃ y, xs0.getD b 0 = y := ⟨_, rfl⟩
    rw [e1] at ca; rw [e2] at cb; rw [e1, e2] at hp hk
    obtain ⟨z, hz⟩ : ∃ z, add32 y1 y2 = z := ⟨_, rfl⟩
    have ez : ((y1 : Int) + y2) % 4294967296 = (z : Int) := by rw [← hz]; simp [add32]
    have hcur : Words (w.setCell ⟨g, a, none⟩ (.int .u32 ((add32 y1 y2 : Nat) : Int))) g t (addTo xs0 a b) := by unfold addTo; rw [e1, e2]; exact hp
    rw [hz] at hcur hk
    replace hcur := Lib.hid hcur; replace hk := Lib.hid hk; clear hp e1 e2 hz
    replace h0 := Lib.hid h0; replace k0 := Lib.hid k0; replace hs0 := Lib.hid hs0
    go_region
    all_goals go_wp2_with fail
    all_goals try go_meet
    all_goals exact ⟨hcur.out.drew, hk.out.drew⟩
  case rest =>
  obtain ⟨h1, k1⟩ := hcut
  clear h0 k0
  obtain ⟨xs1, e1⟩ : ∃ l, l = addTo xs0 a b := ⟨_, rfl⟩
  have hl1 : xs1.length = 16 := by rw [e1, addTo_len]; exact hl0
  have hs1 : Small xs1 := by rw [e1]; exact hs0.addTo a b
  rw [← e1] at h1
  replace e1 := Lib.hid e1
  clear hs0 hl0
  go_upto_region 1 with fail
  go_cut [] from 10 (fun wx => Words wx g t (xorRot xs1 d a 16) ∧ Keeps [g] w wx)
  case first =>
    have ca := h1.cell (i := d) (by omega)
    have cb := h1.cell (i := a) (by omega)
    obtain ⟨y1, e1⟩ : ∃ y, xs1.getD d 0 = y := ⟨_, rfl⟩
    obtain ⟨y2, e2⟩ : ∃ y, xs1.getD a 0 = y := ⟨_, rfl⟩
    have l1 : y1 < 4294967296 := e1 ▸ hs1 d
    have l2 : y2 < 4294967296 := e2 ▸ hs1 a
    rw [e1] at ca; rw [e2] at cb
    obtain ⟨z, hz⟩ : ∃ z : Nat, z = y1 ^^^ y2 := ⟨_, rfl⟩
    have ez : bits .xor .u32 (y1 : Int) (y2 : Int) = (z : Int) := by rw [u32_xor_nat _ _ l1 l2, hz]
    obtain ⟨q, hq⟩ : ∃ q : Nat, q = rotl z 16 := ⟨_, rfl⟩
    have hr : ∀ w', Calls Tryd.prog 196 #[.int .u32 (z : Int), .int .i64 16] w' fun e w2 => e = .returned (.int .u32 (q : Int)) ∧ Below w'.heap.size w' w2 := fun w' => by
      have := rotL z 16 (by rw [hz]; exact Nat.xor_lt_two_pow (n := 32) l1 l2) (by omega) w'
      rw [← hq] at this; exact this
    have hcur : xs1.set d q = xorRot xs1 d a 16 := by unfold xorRot; rw [e1, e2, ← hz, hq]
    clear l1 l2 e1 e2 hz hq
    replace hr := Lib.hid hr; replace hcur := Lib.hid hcur
    replace h1 := Lib.hid h1; replace k1 := Lib.hid k1; replace hs1 := Lib.hid hs1
    go_region_with (go_at_call 196; (with_reducible refine (hr.out _).mono ?_); rintro e w1 ⟨rfl, b9⟩; have W1 := (h1.out.drew).below b9; have K1 := (k1.out.drew).trans (Keeps.ofBelow b9 [g]); have fa := W1.free d; have ca1 := W1.cell (i := d) (by omega); have P1 := W1.put d q; rw [hcur.out] at P1; have Q1 := K1.setCell (p := ⟨g, d, none⟩) (Or.inl (by simp)) (.int .u32 (q : Int)); replace W1 := Lib.hid W1; replace K1 := Lib.hid K1; replace P1 := Lib.hid P1; replace Q1 := Lib.hid Q1; replace b9 := Lib.hid b9)
    all_goals go_wp2_with fail
    all_goals try go_meet
    all_goals exact ⟨P1.out, Q1.out⟩
  case rest =>
  obtain ⟨h2, k2⟩ := hcut
  clear h1 k1
  obtain ⟨xs2, e2⟩ : ∃ l, l = xorRot xs1 d a 16 := ⟨_, rfl⟩
  have hl2 : xs2.length = 16 := by rw [e2, xorRot_len]; exact hl1
  have hs2 : Small xs2 := by rw [e2]; exact hs1.xorRot d a 16 (by omega)
  rw [← e2] at h2
  replace e2 := Lib.hid e2
  clear hs1 hl1
  go_upto_region 2 with fail
  go_cut [] from 10 (fun wx => Words wx g t (addTo xs2 c d) ∧ Keeps [g] w wx)
  case first =>
    have ca := h2.cell (i := c) (by omega)
    have cb := h2.cell (i := d) (by omega)
    have fa := h2.free c
    have hp := h2.put c (add32 (xs2.getD c 0) (xs2.getD d 0))
    have hk := k2.setCell (p := ⟨g, c, none⟩) (Or.inl (by simp)) (.int .u32 ((add32 (xs2.getD c 0) (xs2.getD d 0) : Nat) : Int))
    obtain ⟨y1, e1⟩ : ∃ y, xs2.getD c 0 = y := ⟨_, rfl⟩
    obtain ⟨y2, e2⟩ : ∃ y, xs2.getD d 0 = y := ⟨_, rfl⟩
    rw [e1] at ca; rw [e2] at cb; rw [e1, e2] at hp hk
    obtain ⟨z, hz⟩ : ∃ z, add32 y1 y2 = z := ⟨_, rfl⟩
    have ez : ((y1 : Int) + y2) % 4294967296 = (z : Int) := by rw [← hz]; simp [add32]
    have hcur : Words (wc.setCell ⟨g, c, none⟩ (.int .u32 ((add32 y1 y2 : Nat) : Int))) g t (addTo xs2 c d) := by unfold addTo; rw [e1, e2]; exact hp
    rw [hz] at hcur hk
    replace hcur := Lib.hid hcur; replace hk := Lib.hid hk; clear hp e1 e2 hz
    replace h2 := Lib.hid h2; replace k2 := Lib.hid k2; replace hs2 := Lib.hid hs2
    go_region
    all_goals go_wp2_with fail
    all_goals try go_meet
    all_goals exact ⟨hcur.out.drew, hk.out.drew⟩
  case rest =>
  obtain ⟨h3, k3⟩ := hcut
  clear h2 k2
  obtain ⟨xs3, e3⟩ : ∃ l, l = addTo xs2 c d := ⟨_, rfl⟩
  have hl3 : xs3.length = 16 := by rw [e3, addTo_len]; exact hl2
  have hs3 : Small xs3 := by rw [e3]; exact hs2.addTo c d
  rw [← e3] at h3
  replace e3 := Lib.hid e3
  clear hs2 hl2
  go_upto_region 3 with fail
  go_cut [] from 10 (fun wx => Words wx g t (xorRot xs3 b c 12) ∧ Keeps [g] w wx)
  case first =>
    have ca := h3.cell (i := b) (by omega)
    have cb := h3.cell (i := c) (by omega)
    obtain ⟨y1, e1⟩ : ∃ y, xs3.getD b 0 = y := ⟨_, rfl⟩
    obtain ⟨y2, e2⟩ : ∃ y, xs3.getD c 0 = y := ⟨_, rfl⟩
    have l1 : y1 < 4294967296 := e1 ▸ hs3 b
    have l2 : y2 < 4294967296 := e2 ▸ hs3 c
    rw [e1] at ca; rw [e2] at cb
    obtain ⟨z, hz⟩ : ∃ z : Nat, z = y1 ^^^ y2 := ⟨_, rfl⟩
    have ez : bits .xor .u32 (y1 : Int) (y2 : Int) = (z : Int) := by rw [u32_xor_nat _ _ l1 l2, hz]
    obtain ⟨q, hq⟩ : ∃ q : Nat, q = rotl z 12 := ⟨_, rfl⟩
    have hr : ∀ w', Calls Tryd.prog 196 #[.int .u32 (z : Int), .int .i64 12] w' fun e w2 => e = .returned (.int .u32 (q : Int)) ∧ Below w'.heap.size w' w2 := fun w' => by
      have := rotL z 12 (by rw [hz]; exact Nat.xor_lt_two_pow (n := 32) l1 l2) (by omega) w'
      rw [← hq] at this; exact this
    have hcur : xs3.set b q = xorRot xs3 b c 12 := by unfold xorRot; rw [e1, e2, ← hz, hq]
    clear l1 l2 e1 e2 hz hq
    replace hr := Lib.hid hr; replace hcur := Lib.hid hcur
    replace h3 := Lib.hid h3; replace k3 := Lib.hid k3; replace hs3 := Lib.hid hs3
    go_region_with (go_at_call 196; (with_reducible refine (hr.out _).mono ?_); rintro e w1 ⟨rfl, b9⟩; have W1 := (h3.out.drew).below b9; have K1 := (k3.out.drew).trans (Keeps.ofBelow b9 [g]); have fa := W1.free b; have ca1 := W1.cell (i := b) (by omega); have P1 := W1.put b q; rw [hcur.out] at P1; have Q1 := K1.setCell (p := ⟨g, b, none⟩) (Or.inl (by simp)) (.int .u32 (q : Int)); replace W1 := Lib.hid W1; replace K1 := Lib.hid K1; replace P1 := Lib.hid P1; replace Q1 := Lib.hid Q1; replace b9 := Lib.hid b9)
    all_goals go_wp2_with fail
    all_goals try go_meet
    all_goals exact ⟨P1.out, Q1.out⟩
  case rest =>
  obtain ⟨h4, k4⟩ := hcut
  clear h3 k3
  obtain ⟨xs4, e4⟩ : ∃ l, l = xorRot xs3 b c 12 := ⟨_, rfl⟩
  have hl4 : xs4.length = 16 := by rw [e4, xorRot_len]; exact hl3
  have hs4 : Small xs4 := by rw [e4]; exact hs3.xorRot b c 12 (by omega)
  rw [← e4] at h4
  replace e4 := Lib.hid e4
  clear hs3 hl3
  go_upto_region 4 with fail
  go_cut [] from 10 (fun wx => Words wx g t (addTo xs4 a b) ∧ Keeps [g] w wx)
  case first =>
    have ca := h4.cell (i := a) (by omega)
    have cb := h4.cell (i := b) (by omega)
    have fa := h4.free a
    have hp := h4.put a (add32 (xs4.getD a 0) (xs4.getD b 0))
    have hk := k4.setCell (p := ⟨g, a, none⟩) (Or.inl (by simp)) (.int .u32 ((add32 (xs4.getD a 0) (xs4.getD b 0) : Nat) : Int))
    obtain ⟨y1, e1⟩ : ∃ y, xs4.getD a 0 = y := ⟨_, rfl⟩
    obtain ⟨y2, e2⟩ : ∃ y, xs4.getD b 0 = y := ⟨_, rfl⟩
    rw [e1] at ca; rw [e2] at cb; rw [e1, e2] at hp hk
    obtain ⟨z, hz⟩ : ∃ z, add32 y1 y2 = z := ⟨_, rfl⟩
    have ez : ((y1 : Int) + y2) % 4294967296 = (z : Int) := by rw [← hz]; simp [add32]
    have hcur : Words (wc.setCell ⟨g, a, none⟩ (.int .u32 ((add32 y1 y2 : Nat) : Int))) g t (addTo xs4 a b) := by unfold addTo; rw [e1, e2]; exact hp
    rw [hz] at hcur hk
    replace hcur := Lib.hid hcur; replace hk := Lib.hid hk; clear hp e1 e2 hz
    replace h4 := Lib.hid h4; replace k4 := Lib.hid k4; replace hs4 := Lib.hid hs4
    go_region
    all_goals go_wp2_with fail
    all_goals try go_meet
    all_goals exact ⟨hcur.out.drew, hk.out.drew⟩
  case rest =>
  obtain ⟨h5, k5⟩ := hcut
  clear h4 k4
  obtain ⟨xs5, e5⟩ : ∃ l, l = addTo xs4 a b := ⟨_, rfl⟩
  have hl5 : xs5.length = 16 := by rw [e5, addTo_len]; exact hl4
  have hs5 : Small xs5 := by rw [e5]; exact hs4.addTo a b
  rw [← e5] at h5
  replace e5 := Lib.hid e5
  clear hs4 hl4
  go_upto_region 5 with fail
  go_cut [] from 10 (fun wx => Words wx g t (xorRot xs5 d a 8) ∧ Keeps [g] w wx)
  case first =>
    have ca := h5.cell (i := d) (by omega)
    have cb := h5.cell (i := a) (by omega)
    obtain ⟨y1, e1⟩ : ∃ y, xs5.getD d 0 = y := ⟨_, rfl⟩
    obtain ⟨y2, e2⟩ : ∃ y, xs5.getD a 0 = y := ⟨_, rfl⟩
    have l1 : y1 < 4294967296 := e1 ▸ hs5 d
    have l2 : y2 < 4294967296 := e2 ▸ hs5 a
    rw [e1] at ca; rw [e2] at cb
    obtain ⟨z, hz⟩ : ∃ z : Nat, z = y1 ^^^ y2 := ⟨_, rfl⟩
    have ez : bits .xor .u32 (y1 : Int) (y2 : Int) = (z : Int) := by rw [u32_xor_nat _ _ l1 l2, hz]
    obtain ⟨q, hq⟩ : ∃ q : Nat, q = rotl z 8 := ⟨_, rfl⟩
    have hr : ∀ w', Calls Tryd.prog 196 #[.int .u32 (z : Int), .int .i64 8] w' fun e w2 => e = .returned (.int .u32 (q : Int)) ∧ Below w'.heap.size w' w2 := fun w' => by
      have := rotL z 8 (by rw [hz]; exact Nat.xor_lt_two_pow (n := 32) l1 l2) (by omega) w'
      rw [← hq] at this; exact this
    have hcur : xs5.set d q = xorRot xs5 d a 8 := by unfold xorRot; rw [e1, e2, ← hz, hq]
    clear l1 l2 e1 e2 hz hq
    replace hr := Lib.hid hr; replace hcur := Lib.hid hcur
    replace h5 := Lib.hid h5; replace k5 := Lib.hid k5; replace hs5 := Lib.hid hs5
    go_region_with (go_at_call 196; (with_reducible refine (hr.out _).mono ?_); rintro e w1 ⟨rfl, b9⟩; have W1 := (h5.out.drew).below b9; have K1 := (k5.out.drew).trans (Keeps.ofBelow b9 [g]); have fa := W1.free d; have ca1 := W1.cell (i := d) (by omega); have P1 := W1.put d q; rw [hcur.out] at P1; have Q1 := K1.setCell (p := ⟨g, d, none⟩) (Or.inl (by simp)) (.int .u32 (q : Int)); replace W1 := Lib.hid W1; replace K1 := Lib.hid K1; replace P1 := Lib.hid P1; replace Q1 := Lib.hid Q1; replace b9 := Lib.hid b9)
    all_goals go_wp2_with fail
    all_goals try go_meet
    all_goals exact ⟨P1.out, Q1.out⟩
  case rest =>
  obtain ⟨h6, k6⟩ := hcut
  clear h5 k5
  obtain ⟨xs6, e6⟩ : ∃ l, l = xorRot xs5 d a 8 := ⟨_, rfl⟩
  have hl6 : xs6.length = 16 := by rw [e6, xorRot_len]; exact hl5
  have hs6 : Small xs6 := by rw [e6]; exact hs5.xorRot d a 8 (by omega)
  rw [← e6] at h6
  replace e6 := Lib.hid e6
  clear hs5 hl5
  go_upto_region 6 with fail
  go_cut [] from 10 (fun wx => Words wx g t (addTo xs6 c d) ∧ Keeps [g] w wx)
  case first =>
    have ca := h6.cell (i := c) (by omega)
    have cb := h6.cell (i := d) (by omega)
    have fa := h6.free c
    have hp := h6.put c (add32 (xs6.getD c 0) (xs6.getD d 0))
    have hk := k6.setCell (p := ⟨g, c, none⟩) (Or.inl (by simp)) (.int .u32 ((add32 (xs6.getD c 0) (xs6.getD d 0) : Nat) : Int))
    obtain ⟨y1, e1⟩ : ∃ y, xs6.getD c 0 = y := ⟨_, rfl⟩
    obtain ⟨y2, e2⟩ : ∃ y, xs6.getD d 0 = y := ⟨_, rfl⟩
    rw [e1] at ca; rw [e2] at cb; rw [e1, e2] at hp hk
    obtain ⟨z, hz⟩ : ∃ z, add32 y1 y2 = z := ⟨_, rfl⟩
    have ez : ((y1 : Int) + y2) % 4294967296 = (z : Int) := by rw [← hz]; simp [add32]
    have hcur : Words (wc.setCell ⟨g, c, none⟩ (.int .u32 ((add32 y1 y2 : Nat) : Int))) g t (addTo xs6 c d) := by unfold addTo; rw [e1, e2]; exact hp
    rw [hz] at hcur hk
    replace hcur := Lib.hid hcur; replace hk := Lib.hid hk; clear hp e1 e2 hz
    replace h6 := Lib.hid h6; replace k6 := Lib.hid k6; replace hs6 := Lib.hid hs6
    go_region
    all_goals go_wp2_with fail
    all_goals try go_meet
    all_goals exact ⟨hcur.out.drew, hk.out.drew⟩
  case rest =>
  obtain ⟨h7, k7⟩ := hcut
  clear h6 k6
  obtain ⟨xs7, e7⟩ : ∃ l, l = addTo xs6 c d := ⟨_, rfl⟩
  have hl7 : xs7.length = 16 := by rw [e7, addTo_len]; exact hl6
  have hs7 : Small xs7 := by rw [e7]; exact hs6.addTo c d
  rw [← e7] at h7
  replace e7 := Lib.hid e7
  clear hs6 hl6
  have eq : quarterL xs a b c d = xorRot xs7 b c 7 := by
    unfold quarterL
    rw [e7.out, e6.out, e5.out, e4.out, e3.out, e2.out, e1.out, e0.out]
  replace eq := Lib.hid eq
  go_upto_region 7 with fail
  have ca := h7.cell (i := b) (by omega)
  have cb := h7.cell (i := c) (by omega)
  obtain ⟨y1, e1⟩ : ∃ y, xs7.getD b 0 = y := ⟨_, rfl⟩
  obtain ⟨y2, e2⟩ : ∃ y, xs7.getD c 0 = y := ⟨_, rfl⟩
  have l1 : y1 < 4294967296 := e1 ▸ hs7 b
  have l2 : y2 < 4294967296 := e2 ▸ hs7 c
  rw [e1] at ca; rw [e2] at cb
  obtain ⟨z, hz⟩ : ∃ z : Nat, z = y1 ^^^ y2 := ⟨_, rfl⟩
  have ez : bits .xor .u32 (y1 : Int) (y2 : Int) = (z : Int) := by rw [u32_xor_nat _ _ l1 l2, hz]
  obtain ⟨q, hq⟩ : ∃ q : Nat, q = rotl z 7 := ⟨_, rfl⟩
  have hr : ∀ w', Calls Tryd.prog 196 #[.int .u32 (z : Int), .int .i64 7] w' fun e w2 => e = .returned (.int .u32 (q : Int)) ∧ Below w'.heap.size w' w2 := fun w' => by
    have := rotL z 7 (by rw [hz]; exact Nat.xor_lt_two_pow (n := 32) l1 l2) (by omega) w'
    rw [← hq] at this; exact this
  have hcur : xs7.set b q = xorRot xs7 b c 7 := by unfold xorRot; rw [e1, e2, ← hz, hq]
  clear l1 l2 e1 e2 hz hq
  replace hr := Lib.hid hr; replace hcur := Lib.hid hcur
  replace h7 := Lib.hid h7; replace k7 := Lib.hid k7; replace hs7 := Lib.hid hs7
  go_region_with (go_at_call 196; (with_reducible refine (hr.out _).mono ?_); rintro e w1 ⟨rfl, b9⟩; have W1 := (h7.out.drew).below b9; have K1 := (k7.out.drew).trans (Keeps.ofBelow b9 [g]); have fa := W1.free b; have ca1 := W1.cell (i := b) (by omega); have P1 := W1.put b q; rw [hcur.out] at P1; have Q1 := K1.setCell (p := ⟨g, b, none⟩) (Or.inl (by simp)) (.int .u32 (q : Int)); replace W1 := Lib.hid W1; replace K1 := Lib.hid K1; replace P1 := Lib.hid P1; replace Q1 := Lib.hid Q1; replace b9 := Lib.hid b9)
  all_goals go_wp2
  all_goals go_end0
  all_goals exact ⟨rfl, by rw [eq.out]; exact P1.out, Q1.out⟩
end Go.Proofs.YtdhboldmffiklabDoor.chacha
