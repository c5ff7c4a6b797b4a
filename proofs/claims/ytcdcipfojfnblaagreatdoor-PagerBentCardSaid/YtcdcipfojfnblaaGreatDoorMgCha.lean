/- ChaCha20 (package chacha) and the document's own: blocks of a key and a nonce, and bytes turned by them. No condition. ChaCha20 (package chacha): words of a text, the state of a key and a nonce. No condition. ChaCha20 (package chacha): the state of a key and a nonce. No condition. ChaCha20 (package chacha): a state stirred. No condition. ChaCha20 (package chacha): what a block and what turned bytes are, as lists. No condition. ChaCha20 (package chacha): a block. No condition. ChaCha20 (package chacha): bytes turned. No condition. The first thing that each law of package chacha asks: a known block; keys and nonces of right lengths; what a key or nonce of another length gives. No condition. -/
import Derived.Test.YtcdcipfojfnblaaGreatDoorMgSha
import Derived.Test.YtcdcipfojfnblaaGreatDoorBytes2
import Derived.Deep.DeepCutAuto
import Derived.BigRegion
import Derived.Deep.WholeRow
import Derived.Laws.BitsAllLaws
section
namespace Go.Proofs.YtcdcipfojfnblaaGreatDoor.chacha
open Go.RowKit
attribute [local go_sem ↓] Go.wp_at_zero Go.wp_at_succ
set_option linter.unusedVariables false
set_option maxRecDepth 100000

def add32 (x y : Nat) : Nat := (x + y) % 4294967296
/-- row xs with word a become x_a + x_b -/
def addTo (xs : List Nat) (a b : Nat) : List Nat := xs.set a (add32 (xs.getD a 0) (xs.getD b 0))
def xorRot (xs : List Nat) (a b s : Nat) : List Nat := xs.set a (rotl (xs.getD a 0 ^^^ xs.getD b 0) s)
def quarterL (xs : List Nat) (a b c d : Nat) : List Nat :=
  let xs := xorRot (addTo xs a b) d a 16
  let xs := xorRot (addTo xs c d) b c 12
  let xs := xorRot (addTo xs a b) d a 8
  xorRot (addTo xs c d) b c 7

theorem addTo_len (xs : List Nat) (a b : Nat) : (addTo xs a b).length = xs.length := by simp [addTo]
theorem xorRot_len (xs : List Nat) (a b s : Nat) : (xorRot xs a b s).length = xs.length := by simp [xorRot]
def Small (xs : List Nat) : Prop := ∀ i, xs.getD i 0 < 4294967296
theorem Small.set {xs : List Nat} (h : Small xs) (i n : Nat) (hn : n < 4294967296) : Small (xs.set i n) := by
  intro j
  have := h j
  simp only [List.getD_eq_getElem?_getD, List.getElem?_set] at this ⊢
  split
  · split <;> simp <;> omega
  · exact this
theorem Small.addTo {xs : List Nat} (h : Small xs) (a b : Nat) : Small (addTo xs a b) := h.set _ _ (Nat.mod_lt _ (by decide))
theorem Small.xorRot {xs : List Nat} (h : Small xs) (a b s : Nat) (hs : s ≤ 32) : Small (xorRot xs a b s) := h.set _ _ (rotl_lt _ _ (Nat.xor_lt_two_pow (n := 32) (h a) (h b)) hs)

set_option maxRecDepth 100000 in
set_option maxHeartbeats 2000000 in
theorem quarter_any (g t : Nat) (xs : List Nat) (a b c d : Nat) (w : World) (h : Words w g t xs) (hl : xs.length = 16) (hx : Small xs) (ha : a < 16) (hb : b < 16) (hc : c < 16) (hd : d < 16) :
    Calls Tryz.prog 127 #[.pointer (some ⟨g, 0, none⟩), .int .i64 (a : Int), .int .i64 (b : Int), .int .i64 (c : Int), .int .i64 (d : Int)] w fun e w' => e = .returned (.tuple #[]) ∧ Words w' g t (quarterL xs a b c d) ∧ Keeps [g] w w' := by
  have a0 : (0 : Int) ≤ a := by omega
  have a1 : (a : Int) < 16 := by omega
  have b0 : (0 : Int) ≤ b := by omega
  have b1 : (b : Int) < 16 := by omega
  have c0 : (0 : Int) ≤ c := by omega
  have c1 : (c : Int) < 16 := by omega
  have d0 : (0 : Int) ≤ d := by omega
  have d1 : (d : Int) < 16 := by omega
  obtain ⟨xs0, e0⟩ : ∃ l, l = xs := ⟨_, rfl⟩
  have h0 : Words w g t xs0 := e0 ▸ h
  have hl0 : xs0.length = 16 := e0 ▸ hl
  have hs0 : Small xs0 := e0 ▸ hx
  have k0 : Keeps [g] w w := Keeps.refl [g] w
  replace e0 := Lib.hid e0
  clear h hl hx
  go_enter Tryz.func127, Tryz.ntmps127
  go_upto_region 0 with fail
  go_cut [] from 10 (fun wx => Words wx g t (addTo xs0 a b) ∧ Keeps [g] w wx)
  case first =>
    have ca := h0.cell (i := a) (by omega)
    have cb := h0.cell (i := b) (by omega)
    have fa := h0.free a
    have hp := h0.put a (add32 (xs0.getD a 0) (xs0.getD b 0))
    have hk := k0.setCell (p := ⟨g, a, none⟩) (Or.inl (by simp)) (.int .u32 ((add32 (xs0.getD a 0) (xs0.getD b 0) : Nat) : Int))
    obtain ⟨y1, e1⟩ : ∃ y, xs0.getD a 0 = y := ⟨_, rfl⟩
    obtain ⟨y2, e2⟩ : ∃ y, xs0.getD b 0 = y := ⟨_, rfl⟩
    rw [e1] at ca; rw [e2] at cb; rw [e1, e2] at hp hk
    obtain ⟨z, hz⟩ : ∃ z, add32 y1 y2 = z := ⟨_, rfl⟩
    have ez : ((y1 : Int) + y2) % 4294967296 = (z : Int) := by rw [← hz]; simp [add32]
    have hcur : Words (w.setCell ⟨g, a, none⟩ (.int .u32 ((add32 y1 y2 : Nat) : Int))) g t (addTo xs0 a b) := by unfold addTo; rw [e1, e2]; exact hp
    rw [hz] at hcur hk
    replace hcur := Lib.hid hcur; replace hk := Lib.hid hk; clear hp e1 e2 hz
    replace h0 := Lib.hid h0; replace k0 := Lib.hid k0; replace hs0 := Lib.hid hs0
    go_region
    all_goals go_wp2_with fail
    all_goals try go_meet
    all_goals exact ⟨hcur.out.drew, hk.out.drew⟩
  case rest =>
  obtain ⟨h1, k1⟩ := hcut
  clear h0 k0
  obtain ⟨xs1, e1⟩ : ∃ l, l = addTo xs0 a b := ⟨_, rfl⟩
  have hl1 : xs1.length = 16 := by rw [e1, addTo_len]; exact hl0
  have hs1 : Small xs1 := by rw [e1]; exact hs0.addTo a b
  rw [← e1] at h1
  replace e1 := Lib.hid e1
  clear hs0 hl0
  go_upto_region 1 with fail
  go_cut [] from 10 (fun wx => Words wx g t (xorRot xs1 d a 16) ∧ Keeps [g] w wx)
  case first =>
    have ca := h1.cell (i := d) (by omega)
    have cb := h1.cell (i := a) (by omega)
    obtain ⟨y1, e1⟩ : ∃ y, xs1.getD d 0 = y := ⟨_, rfl⟩
    obtain ⟨y2, e2⟩ : ∃ y, xs1.getD a 0 = y := ⟨_, rfl⟩
    have l1 : y1 < 4294967296 := e1 ▸ hs1 d
    have l2 : y2 < 4294967296 := e2 ▸ hs1 a
    rw [e1] at ca; rw [e2] at cb
    obtain ⟨z, hz⟩ : ∃ z : Nat, z = y1 ^^^ y2 := ⟨_, rfl⟩
    have ez : bits .xor .u32 (y1 : Int) (y2 : Int) = (z : Int) := by rw [u32_xor_nat _ _ l1 l2, hz]
    obtain ⟨q, hq⟩ : ∃ q : Nat, q = rotl z 16 := ⟨_, rfl⟩
    have hr : ∀ w', Calls Tryz.prog 115 #[.int .u32 (z : Int), .int .i64 16] w' fun e w2 => e = .returned (.int .u32 (q : Int)) ∧ Below w'.heap.size w' w2 := fun w' => by
      have := rotL z 16 (by rw [hz]; exact Nat.xor_lt_two_pow (n := 32) l1 l2) (by omega) w'
      rw [← hq] at this; exact this
    have hcur : xs1.set d q = xorRot xs1 d a 16 := by unfold xorRot; rw [e1, e2, ← hz, hq]
    clear l1 l2 e1 e2 hz hq
    replace hr := Lib.hid hr; replace hcur := Lib.hid hcur
    replace h1 := Lib.hid h1; replace k1 := Lib.hid k1; replace hs1 := Lib.hid hs1
    go_region_with (go_at_call 115; (with_reducible refine (hr.out _).mono ?_); rintro e w1 ⟨rfl, b9⟩; have W1 := (h1.out.drew).below b9; have K1 := (k1.out.drew).trans (Keeps.ofBelow b9 [g]); have fa := W1.free d; have ca1 := W1.cell (i := d) (by omega); have P1 := W1.put d q; rw [hcur.out] at P1; have Q1 := K1.setCell (p := ⟨g, d, none⟩) (Or.inl (by simp)) (.int .u32 (q : Int)); replace W1 := Lib.hid W1; replace K1 := Lib.hid K1; replace P1 := Lib.hid P1; replace Q1 := Lib.hid Q1; replace b9 := Lib.hid b9)
    all_goals go_wp2_with fail
    all_goals try go_meet
    all_goals exact ⟨P1.out, Q1.out⟩
  case rest =>
  obtain ⟨h2, k2⟩ := hcut
  clear h1 k1
  obtain ⟨xs2, e2⟩ : ∃ l, l = xorRot xs1 d a 16 := ⟨_, rfl⟩
  have hl2 : xs2.length = 16 := by rw [e2, xorRot_len]; exact hl1
  have hs2 : Small xs2 := by rw [e2]; exact hs1.xorRot d a 16 (by omega)
  rw [← e2] at h2
  replace e2 := Lib.hid e2
  clear hs1 hl1
  go_upto_region 2 with fail
  go_cut [] from 10 (fun wx => Words wx g t (addTo xs2 c d) ∧ Keeps [g] w wx)
  case first =>
    have ca := h2.cell (i := c) (by omega)
    have cb := h2.cell (i := d) (by omega)
    have fa := h2.free c
    have hp := h2.put c (add32 (xs2.getD c 0) (xs2.getD d 0))
    have hk := k2.setCell (p := ⟨g, c, none⟩) (Or.inl (by simp)) (.int .u32 ((add32 (xs2.getD c 0) (xs2.getD d 0) : Nat) : Int))
    obtain ⟨y1, e1⟩ : ∃ y, xs2.getD c 0 = y := ⟨_, rfl⟩
    obtain ⟨y2, e2⟩ : ∃ y, xs2.getD d 0 = y := ⟨_, rfl⟩
    rw [e1] at ca; rw [e2] at cb; rw [e1, e2] at hp hk
    obtain ⟨z, hz⟩ : ∃ z, add32 y1 y2 = z := ⟨_, rfl⟩
    have ez : ((y1 : Int) + y2) % 4294967296 = (z : Int) := by rw [← hz]; simp [add32]
    have hcur : Words (wc.setCell ⟨g, c, none⟩ (.int .u32 ((add32 y1 y2 : Nat) : Int))) g t (addTo xs2 c d) := by unfold addTo; rw [e1, e2]; exact hp
    rw [hz] at hcur hk
    replace hcur := Lib.hid hcur; replace hk := Lib.hid hk; clear hp e1 e2 hz
    replace h2 := Lib.hid h2; replace k2 := Lib.hid k2; replace hs2 := Lib.hid hs2
    go_region
    all_goals go_wp2_with fail
    all_goals try go_meet
    all_goals exact ⟨hcur.out.drew, hk.out.drew⟩
  case rest =>
  obtain ⟨h3, k3⟩ := hcut
  clear h2 k2
  obtain ⟨xs3, e3⟩ : ∃ l, l = addTo xs2 c d := ⟨_, rfl⟩
  have hl3 : xs3.length = 16 := by rw [e3, addTo_len]; exact hl2
  have hs3 : Small xs3 := by rw [e3]; exact hs2.addTo c d
  rw [← e3] at h3
  replace e3 := Lib.hid e3
  clear hs2 hl2
  go_upto_region 3 with fail
  go_cut [] from 10 (fun wx => Words wx g t (xorRot xs3 b c 12) ∧ Keeps [g] w wx)
  case first =>
    have ca := h3.cell (i := b) (by omega)
    have cb := h3.cell (i := c) (by omega)
    obtain ⟨y1, e1⟩ : ∃ y, xs3.getD b 0 = y := ⟨_, rfl⟩
    obtain ⟨y2, e2⟩ : ∃ y, xs3.getD c 0 = y := ⟨_, rfl⟩
    have l1 : y1 < 4294967296 := e1 ▸ hs3 b
    have l2 : y2 < 4294967296 := e2 ▸ hs3 c
    rw [e1] at ca; rw [e2] at cb
    obtain ⟨z, hz⟩ : ∃ z : Nat, z = y1 ^^^ y2 := ⟨_, rfl⟩
    have ez : bits .xor .u32 (y1 : Int) (y2 : Int) = (z : Int) := by rw [u32_xor_nat _ _ l1 l2, hz]
    obtain ⟨q, hq⟩ : ∃ q : Nat, q = rotl z 12 := ⟨_, rfl⟩
    have hr : ∀ w', Calls Tryz.prog 115 #[.int .u32 (z : Int), .int .i64 12] w' fun e w2 => e = .returned (.int .u32 (q : Int)) ∧ Below w'.heap.size w' w2 := fun w' => by
      have := rotL z 12 (by rw [hz]; exact Nat.xor_lt_two_pow (n := 32) l1 l2) (by omega) w'
      rw [← hq] at this; exact this
    have hcur : xs3.set b q = xorRot xs3 b c 12 := by unfold xorRot; rw [e1, e2, ← hz, hq]
    clear l1 l2 e1 e2 hz hq
    replace hr := Lib.hid hr; replace hcur := Lib.hid hcur
    replace h3 := Lib.hid h3; replace k3 := Lib.hid k3; replace hs3 := Lib.hid hs3
    go_region_with (go_at_call 115; (with_reducible refine (hr.out _).mono ?_); rintro e w1 ⟨rfl, b9⟩; have W1 := (h3.out.drew).below b9; have K1 := (k3.out.drew).trans (Keeps.ofBelow b9 [g]); have fa := W1.free b; have ca1 := W1.cell (i := b) (by omega); have P1 := W1.put b q; rw [hcur.out] at P1; have Q1 := K1.setCell (p := ⟨g, b, none⟩) (Or.inl (by simp)) (.int .u32 (q : Int)); replace W1 := Lib.hid W1; replace K1 := Lib.hid K1; replace P1 := Lib.hid P1; replace Q1 := Lib.hid Q1; replace b9 := Lib.hid b9)
    all_goals go_wp2_with fail
    all_goals try go_meet
    all_goals exact ⟨P1.out, Q1.out⟩
  case rest =>
  obtain ⟨h4, k4⟩ := hcut
  clear h3 k3
  obtain ⟨xs4, e4⟩ : ∃ l, l = xorRot xs3 b c 12 := ⟨_, rfl⟩
  have hl4 : xs4.length = 16 := by rw [e4, xorRot_len]; exact hl3
  have hs4 : Small xs4 := by rw [e4]; exact hs3.xorRot b c 12 (by omega)
  rw [← e4] at h4
  replace e4 := Lib.hid e4
  clear hs3 hl3
  go_upto_region 4 with fail
  go_cut [] from 10 (fun wx => Words wx g t (addTo xs4 a b) ∧ Keeps [g] w wx)
  case first =>
    have ca := h4.cell (i := a) (by omega)
    have cb := h4.cell (i := b) (by omega)
    have fa := h4.free a
    have hp := h4.put a (add32 (xs4.getD a 0) (xs4.getD b 0))
    have hk := k4.setCell (p := ⟨g, a, none⟩) (Or.inl (by simp)) (.int .u32 ((add32 (xs4.getD a 0) (xs4.getD b 0) : Nat) : Int))
    obtain ⟨y1, e1⟩ : ∃ y, xs4.getD a 0 = y := ⟨_, rfl⟩
    obtain ⟨y2, e2⟩ : ∃ y, xs4.getD b 0 = y := ⟨_, rfl⟩
    rw [e1] at ca; rw [e2] at cb; rw [e1, e2] at hp hk
    obtain ⟨z, hz⟩ : ∃ z, add32 y1 y2 = z := ⟨_, rfl⟩
    have ez : ((y1 : Int) + y2) % 4294967296 = (z : Int) := by rw [← hz]; simp [add32]
    have hcur : Words (wc.setCell ⟨g, a, none⟩ (.int .u32 ((add32 y1 y2 : Nat) : Int))) g t (addTo xs4 a b) := by unfold addTo; rw [e1, e2]; exact hp
    rw [hz] at hcur hk
    replace hcur := Lib.hid hcur; replace hk := Lib.hid hk; clear hp e1 e2 hz
    replace h4 := Lib.hid h4; replace k4 := Lib.hid k4; replace hs4 := Lib.hid hs4
    go_region
    all_goals go_wp2_with fail
    all_goals try go_meet
    all_goals exact ⟨hcur.out.drew, hk.out.drew⟩
  case rest =>
  obtain ⟨h5, k5⟩ := hcut
  clear h4 k4
  obtain ⟨xs5, e5⟩ : ∃ l, l = addTo xs4 a b := ⟨_, rfl⟩
  have hl5 : xs5.length = 16 := by rw [e5, addTo_len]; exact hl4
  have hs5 : Small xs5 := by rw [e5]; exact hs4.addTo a b
  rw [← e5] at h5
  replace e5 := Lib.hid e5
  clear hs4 hl4
  go_upto_region 5 with fail
  go_cut [] from 10 (fun wx => Words wx g t (xorRot xs5 d a 8) ∧ Keeps [g] w wx)
  case first =>
    have ca := h5.cell (i := d) (by omega)
    have cb := h5.cell (i := a) (by omega)
    obtain ⟨y1, e1⟩ : ∃ y, xs5.getD d 0 = y := ⟨_, rfl⟩
    obtain ⟨y2, e2⟩ : ∃ y, xs5.getD a 0 = y := ⟨_, rfl⟩
    have l1 : y1 < 4294967296 := e1 ▸ hs5 d
    have l2 : y2 < 4294967296 := e2 ▸ hs5 a
    rw [e1] at ca; rw [e2] at cb
    obtain ⟨z, hz⟩ : ∃ z : Nat, z = y1 ^^^ y2 := ⟨_, rfl⟩
    have ez : bits .xor .u32 (y1 : Int) (y2 : Int) = (z : Int) := by rw [u32_xor_nat _ _ l1 l2, hz]
    obtain ⟨q, hq⟩ : ∃ q : Nat, q = rotl z 8 := ⟨_, rfl⟩
    have hr : ∀ w', Calls Tryz.prog 115 #[.int .u32 (z : Int), .int .i64 8] w' fun e w2 => e = .returned (.int .u32 (q : Int)) ∧ Below w'.heap.size w' w2 := fun w' => by
      have := rotL z 8 (by rw [hz]; exact Nat.xor_lt_two_pow (n := 32) l1 l2) (by omega) w'
      rw [← hq] at this; exact this
    have hcur : xs5.set d q = xorRot xs5 d a 8 := by unfold xorRot; rw [e1, e2, ← hz, hq]
    clear l1 l2 e1 e2 hz hq
    replace hr := Lib.hid hr; replace hcur := Lib.hid hcur
    replace h5 := Lib.hid h5; replace k5 := Lib.hid k5; replace hs5 := Lib.hid hs5
    go_region_with (go_at_call 115; (with_reducible refine (hr.out _).mono ?_); rintro e w1 ⟨rfl, b9⟩; have W1 := (h5.out.drew).below b9; have K1 := (k5.out.drew).trans (Keeps.ofBelow b9 [g]); have fa := W1.free d; have ca1 := W1.cell (i := d) (by omega); have P1 := W1.put d q; rw [hcur.out] at P1; have Q1 := K1.setCell (p := ⟨g, d, none⟩) (Or.inl (by simp)) (.int .u32 (q : Int)); replace W1 := Lib.hid W1; replace K1 := Lib.hid K1; replace P1 := Lib.hid P1; replace Q1 := Lib.hid Q1; replace b9 := Lib.hid b9)
    all_goals go_wp2_with fail
    all_goals try go_meet
    all_goals exact ⟨P1.out, Q1.out⟩
  case rest =>
  obtain ⟨h6, k6⟩ := hcut
  clear h5 k5
  obtain ⟨xs6, e6⟩ : ∃ l, l = xorRot xs5 d a 8 := ⟨_, rfl⟩
  have hl6 : xs6.length = 16 := by rw [e6, xorRot_len]; exact hl5
  have hs6 : Small xs6 := by rw [e6]; exact hs5.xorRot d a 8 (by omega)
  rw [← e6] at h6
  replace e6 := Lib.hid e6
  clear hs5 hl5
  go_upto_region 6 with fail
  go_cut [] from 10 (fun wx => Words wx g t (addTo xs6 c d) ∧ Keeps [g] w wx)
  case first =>
    have ca := h6.cell (i := c) (by omega)
    have cb := h6.cell (i := d) (by omega)
    have fa := h6.free c
    have hp := h6.put c (add32 (xs6.getD c 0) (xs6.getD d 0))
    have hk := k6.setCell (p := ⟨g, c, none⟩) (Or.inl (by simp)) (.int .u32 ((add32 (xs6.getD c 0) (xs6.getD d 0) : Nat) : Int))
    obtain ⟨y1, e1⟩ : ∃ y, xs6.getD c 0 = y := ⟨_, rfl⟩
    obtain ⟨y2, e2⟩ : ∃ y, xs6.getD d 0 = y := ⟨_, rfl⟩
    rw [e1] at ca; rw [e2] at cb; rw [e1, e2] at hp hk
    obtain ⟨z, hz⟩ : ∃ z, add32 y1 y2 = z := ⟨_, rfl⟩
    have ez : ((y1 : Int) + y2) % 4294967296 = (z : Int) := by rw [← hz]; simp [add32]
    have hcur : Words (wc.setCell ⟨g, c, none⟩ (.int .u32 ((add32 y1 y2 : Nat) : Int))) g t (addTo xs6 c d) := by unfold addTo; rw [e1, e2]; exact hp
    rw [hz] at hcur hk
    replace hcur := Lib.hid hcur; replace hk := Lib.hid hk; clear hp e1 e2 hz
    replace h6 := Lib.hid h6; replace k6 := Lib.hid k6; replace hs6 := Lib.hid hs6
    go_region
    all_goals go_wp2_with fail
    all_goals try go_meet
    all_goals exact ⟨hcur.out.drew, hk.out.drew⟩
  case rest =>
  obtain ⟨h7, k7⟩ := hcut
  clear h6 k6
  obtain ⟨xs7, e7⟩ : ∃ l, l = addTo xs6 c d := ⟨_, rfl⟩
  have hl7 : xs7.length = 16 := by rw [e7, addTo_len]; exact hl6
  have hs7 : Small xs7 := by rw [e7]; exact hs6.addTo c d
  rw [← e7] at h7
  replace e7 := Lib.hid e7
  clear hs6 hl6
  have eq : quarterL xs a b c d = xorRot xs7 b c 7 := by
    unfold quarterL
    rw [e7.out, e6.out, e5.out, e4.out, e3.out, e2.out, e1.out, e0.out]
  replace eq := Lib.hid eq
  go_upto_region 7 with fail
  have ca := h7.cell (i := b) (by omega)
  have cb := h7.cell (i := c) (by omega)
  obtain ⟨y1, e1⟩ : ∃ y, xs7.getD b 0 = y := ⟨_, rfl⟩
  obtain ⟨y2, e2⟩ : ∃ y, xs7.getD c 0 = y := ⟨_, rfl⟩
  have l1 : y1 < 4294967296 := e1 ▸ hs7 b
  have l2 : y2 < 4294967296 := e2 ▸ hs7 c
  rw [e1] at ca; rw [e2] at cb
  obtain ⟨z, hz⟩ : ∃ z : Nat, z = y1 ^^^ y2 := ⟨_, rfl⟩
  have ez : bits .xor .u32 (y1 : Int) (y2 : Int) = (z : Int) := by rw [u32_xor_nat _ _ l1 l2, hz]
  obtain ⟨q, hq⟩ : ∃ q : Nat, q = rotl z 7 := ⟨_, rfl⟩
  have hr : ∀ w', Calls Tryz.prog 115 #[.int .u32 (z : Int), .int .i64 7] w' fun e w2 => e = .returned (.int .u32 (q : Int)) ∧ Below w'.heap.size w' w2 := fun w' => by
    have := rotL z 7 (by rw [hz]; exact Nat.xor_lt_two_pow (n := 32) l1 l2) (by omega) w'
    rw [← hq] at this; exact this
  have hcur : xs7.set b q = xorRot xs7 b c 7 := by unfold xorRot; rw [e1, e2, ← hz, hq]
  clear l1 l2 e1 e2 hz hq
  replace hr := Lib.hid hr; replace hcur := Lib.hid hcur
  replace h7 := Lib.hid h7; replace k7 := Lib.hid k7; replace hs7 := Lib.hid hs7
  go_region_with (go_at_call 115; (with_reducible refine (hr.out _).mono ?_); rintro e w1 ⟨rfl, b9⟩; have W1 := (h7.out.drew).below b9; have K1 := (k7.out.drew).trans (Keeps.ofBelow b9 [g]); have fa := W1.free b; have ca1 := W1.cell (i := b) (by omega); have P1 := W1.put b q; rw [hcur.out] at P1; have Q1 := K1.setCell (p := ⟨g, b, none⟩) (Or.inl (by simp)) (.int .u32 (q : Int)); replace W1 := Lib.hid W1; replace K1 := Lib.hid K1; replace P1 := Lib.hid P1; replace Q1 := Lib.hid Q1; replace b9 := Lib.hid b9)
  all_goals go_wp2
  all_goals go_end0
  all_goals exact ⟨rfl, by rw [eq.out]; exact P1.out, Q1.out⟩
end Go.Proofs.YtcdcipfojfnblaaGreatDoor.chacha
end
section
namespace Go.Proofs.YtcdcipfojfnblaaGreatDoor.chacha
open Go.RowKit
attribute [local go_sem ↓] Go.wp_at_zero Go.wp_at_succ
set_option linter.unusedVariables false
set_option maxRecDepth 100000

def byteAt (s : ByteArray) (i : Nat) : Nat := (s.data.getD i 0).toNat
def wordAt (s : ByteArray) (i : Nat) : Nat := byteAt s i + byteAt s (i + 1) * 256 + byteAt s (i + 2) * 65536 + byteAt s (i + 3) * 16777216
theorem byteAt_eq (s : ByteArray) (j : Nat) (hj : j < s.size) : byteAt s j = (s[j]'hj).toNat := by
  have h : j < s.data.size := hj
  have e : s.data.getD j 0 = s.data[j]'h := by simp only [Array.getD]; rw [dif_pos h]; rfl
  unfold byteAt
  rw [e]
  rfl
theorem or4 (a b c d : Nat) (ha : a < 256) (hb : b < 256) (hc : c < 256) (hd : d < 256) :
    bits .or .u32 (bits .or .u32 (bits .or .u32 ((a : Int) % 4294967296) ((b : Int) % 4294967296 * 256 % 4294967296)) ((c : Int) % 4294967296 * 65536 % 4294967296)) ((d : Int) % 4294967296 * 16777216 % 4294967296) = ((a + b * 256 + c * 65536 + d * 16777216 : Nat) : Int) := by
  have e1 : (a : Int) % 4294967296 = ((a : Nat) : Int) := by omega
  have e2 : (b : Int) % 4294967296 * 256 % 4294967296 = ((b * 256 : Nat) : Int) := by omega
  have e3 : (c : Int) % 4294967296 * 65536 % 4294967296 = ((c * 65536 : Nat) : Int) := by omega
  have e4 : (d : Int) % 4294967296 * 16777216 % 4294967296 = ((d * 16777216 : Nat) : Int) := by omega
  have j1 : a ||| b * 256 = b * 256 + a := by rw [Nat.or_comm]; exact nat_join 8 _ _ (by omega) (by omega)
  have j2 : (b * 256 + a) ||| c * 65536 = c * 65536 + (b * 256 + a) := by rw [Nat.or_comm]; exact nat_join 16 _ _ (by omega) (by omega)
  have j3 : (c * 65536 + (b * 256 + a)) ||| d * 16777216 = d * 16777216 + (c * 65536 + (b * 256 + a)) := by rw [Nat.or_comm]; exact nat_join 24 _ _ (by omega) (by omega)
  rw [e1, e2, e3, e4, u32_or_nat _ _ (by omega) (by omega), j1, u32_or_nat _ _ (by omega) (by omega), j2, u32_or_nat _ _ (by omega) (by omega), j3]
  congr 1
  omega
theorem may_any (k n : ByteArray) (w : World) : Calls Tryz.prog 87 #[.string k, .string n] w fun e w' => e = .returned (.bool (decide (k.size = 32) && decide (n.size = 12))) ∧ Below w.heap.size w w' := by
  by_cases h : (k.size : Int) = 32
  · go_enter Tryz.func87, Tryz.ntmps87
    go_wp2
    go_ret
    refine ⟨?_, by go_grown⟩
    have h' : k.size = 32 := by omega
    rw [h']
    simp only [decide_true, Bool.true_and]
    show Ending.returned (Value.bool (decide ((n.size : Int) = 12))) = _
    congr 2
    simp only [decide_eq_decide]
    omega
  · go_enter Tryz.func87, Tryz.ntmps87
    go_wp2
    go_ret
    refine ⟨?_, by go_grown⟩
    have h' : ¬ k.size = 32 := by omega
    simp [h']
set_option maxRecDepth 100000 in
theorem word_any (s : ByteArray) (i : Nat) (w : World) (h : i + 4 ≤ s.size) (hi : i ≤ 1000) :
    Calls Tryz.prog 126 #[.string s, .int .i64 (i : Int)] w fun e w' => e = .returned (.int .u32 ((wordAt s i : Nat) : Int)) ∧ Below w.heap.size w w' := by
  have i0 : (0 : Int) ≤ (i : Int) := by omega
  have i1 : (i : Int) < s.size := by omega
  have i2 : (i : Int) + 1 < s.size := by omega
  have i3 : (i : Int) + 2 < s.size := by omega
  have i4 : (i : Int) + 3 < s.size := by omega
  have i5 : (i : Int) ≤ 1000 := by omega
  have v1 : IntKind.i64.wrap ((i : Int) + 1) = (i : Int) + 1 := by rw [IntKind.wrap_i64]; omega
  have v2 : IntKind.i64.wrap ((i : Int) + 2) = (i : Int) + 2 := by rw [IntKind.wrap_i64]; omega
  have v3 : IntKind.i64.wrap ((i : Int) + 3) = (i : Int) + 3 := by rw [IntKind.wrap_i64]; omega
  have z1 : (0 : Int) ≤ (i : Int) + 1 := by omega
  have z2 : (0 : Int) ≤ (i : Int) + 2 := by omega
  have z3 : (0 : Int) ≤ (i : Int) + 3 := by omega
  go_enter Tryz.func126, Tryz.ntmps126
  go_upto_region 1 with fail
  go_region
  all_goals go_wp2
  all_goals go_ret
  all_goals refine ⟨?_, by go_grown⟩
  refine congrArg (fun x => Ending.returned (Value.int .u32 x)) ?_
  unfold wordAt
  rw [byteAt_eq s i (by omega), byteAt_eq s (i + 1) (by omega), byteAt_eq s (i + 2) (by omega), byteAt_eq s (i + 3) (by omega)]
  exact or4 _ _ _ _ (UInt8.toNat_lt _) (UInt8.toNat_lt _) (UInt8.toNat_lt _) (UInt8.toNat_lt _)
end Go.Proofs.YtcdcipfojfnblaaGreatDoor.chacha
end
section
namespace Go.Proofs.YtcdcipfojfnblaaGreatDoor.chacha
open Go.RowKit
attribute [local go_sem ↓] Go.wp_at_zero Go.wp_at_succ
set_option linter.unusedVariables false
set_option maxRecDepth 100000

def consts : List Nat := [1634760805, 857760878, 2036477234, 1797285236, 0, 0, 0, 0, 0, 0, 0, 0, 0, 0, 0, 0]
def keyed (key : ByteArray) : Nat → List Nat
  | 0 => consts
  | k + 1 => (keyed key k).set (4 + k) (wordAt key (4 * k))
def nonced (key nonce : ByteArray) : Nat → List Nat
  | 0 => keyed key 8
  | k + 1 => (nonced key nonce k).set (13 + k) (wordAt nonce (4 * k))
def begunL (key nonce : ByteArray) : List Nat := nonced key nonce 3
theorem keyed_len (key : ByteArray) (k : Nat) : (keyed key k).length = 16 := by
  induction k with
  | zero => rfl
  | succ k ih => simp [keyed, ih]
theorem nonced_len (key nonce : ByteArray) (k : Nat) : (nonced key nonce k).length = 16 := by
  induction k with
  | zero => exact keyed_len key 8
  | succ k ih => simp [nonced, ih]
theorem belowRow {B g : Nat} {a w : World} (h : Below B a w) (hg : B ≤ g) (cs : Array Value) : Below B a (w.setRow g cs) :=
  ⟨h.os, h.tape, h.output, by simpa [World.setRow] using h.size, fun k hk => by
    have e : (w.setRow g cs).heap[k]? = w.heap[k]? := by
      simp only [World.setRow, Array.getElem?_modify]
      rw [if_neg (by omega)]
    exact e.trans (h.block k hk)⟩
theorem newWords2 (w : World) (z : Array Value) (cs : Array Value) (t : TypeId) (xs : List Nat) (h : (xs.map word).toArray = cs) : Words ((w.alloc (.cells z t)).alloc (.cells cs t)) (w.heap.size + 1) t xs := by
  subst h
  have := heap_alloc_new (w.alloc (.cells z t)) (.cells (xs.map word).toArray t)
  have e : (w.alloc (.cells z t)).heap.size = w.heap.size + 1 := by simp
  rw [e] at this
  exact this
theorem newZ (w : World) (z : Array Value) (cs : Array Value) (t : TypeId) : ((w.alloc (.cells z t)).alloc (.cells cs t)).heap[w.heap.size]? = some (.cells z t (0, 0)) := by
  rw [Below.heap_alloc _ _ _ (by simp)]
  exact heap_alloc_new w _
set_option maxRecDepth 100000 in
set_option maxHeartbeats 400000 in
theorem begun_any (key nonce : ByteArray) (hk : key.size = 32) (hn : nonce.size = 12) (w : World) :
    Calls Tryz.prog 110 #[.string key, .string nonce] w fun e w' => e = .returned (.agg ((begunL key nonce).map word).toArray) ∧ Below w.heap.size w w' := by
  go_enter Tryz.func110, Tryz.ntmps110
  go_wp2
  go_loopg [9] 8 (fun gn s9 wr => ∃ i : Nat, s9 = .int .i64 (i : Int) ∧ i + gn = 8 ∧ Words wr (w.heap.size + 1) 184 (keyed key i) ∧ (∃ z, wr.heap[w.heap.size]? = some (.cells z 184 (0, 0)) ∧ z.size = 16) ∧ Below w.heap.size w wr)
  case atStart => exact ⟨0, rfl, rfl, newWords2 w _ _ 184 consts rfl, ⟨_, newZ w _ _ 184, rfl⟩, by go_grown⟩
  case round =>
    obtain ⟨i, rfl, hi, hW, hZ, hB⟩ := hrel
    by_cases h0 : gk = 0
    · obtain rfl : i = 8 := by omega
      replace hZ := Lib.hid hZ
      replace hW := Lib.hid hW
      clear hi h0
      go_wp2
      go_loopg [20] 3 (fun gn s9 wr => ∃ i : Nat, s9 = .int .i64 (i : Int) ∧ i + gn = 3 ∧ Words wr (w.heap.size + 1) 184 (nonced key nonce i) ∧ (∃ z, wr.heap[w.heap.size]? = some (.cells z 184 (0, 0)) ∧ z.size = 16) ∧ Below w.heap.size w wr)
      case atStart => exact ⟨0, rfl, rfl, hW.out, hZ.out, hB⟩
      case round =>
        obtain ⟨i, rfl, hi, hW, hZ, hB⟩ := hrel
        by_cases h0 : gk = 0
        · obtain rfl : i = 3 := by omega
          obtain ⟨z, hz1, hz2⟩ := hZ
          obtain ⟨cs, hcs⟩ : ∃ cs, cs = ((nonced key nonce 3).map word).toArray := ⟨_, rfl⟩
          have hsz : cs.size = 16 := by rw [hcs]; simp [nonced_len]
          have h1c : cs.all (·.oneCell') = true := by
            rw [hcs, Array.all_eq_true_iff_forall_mem]
            intro v hv
            simp at hv
            obtain ⟨n, _, rfl⟩ := hv
            rfl
          have hWc : wr.heap[w.heap.size + 1]? = some (.cells cs 184 (0, 0)) := by rw [hcs]; exact hW
          have hi16 : (Tryz.prog.info? 184).map (·.size) = some 16 := by kernel_rfl
          have hres := setRow_heap wr w.heap.size z cs 184 (0, 0) hz1
          replace hi16 := Lib.hid hi16
          replace hres := Lib.hid hres
          replace hW := Lib.hid hW
          replace hWc := Lib.hid hWc
          replace hz1 := Lib.hid hz1
          replace hcs := Lib.hid hcs
          replace h1c := Lib.hid h1c
          clear hi h0
          go_wp2_with (first | (refine wpList_load_row rfl 184 (.tmp 5) rfl (w.heap.size + 1) rfl 184 cs (0, 0) _ hWc.out Tryz.underlying184 rfl (by rw [hsz]; exact hi16.out) ?_) | (refine wpList_store_row rfl 184 (.tmp 4) (.tmp 31) rfl w.heap.size cs rfl rfl 184 z hz1.out (by rw [hsz]; exact hi16.out) (by rw [hz2, hsz]) h1c.out ?_))
          exact bodyPost_ret (v := .agg cs) (results_cell_row rfl _ _ w.heap.size 184 cs (0, 0) _ rfl hres.out Tryz.underlying184 rfl (by rw [hsz]; exact hi16.out)) rfl ⟨by rw [hcs.out]; rfl, belowRow hB (Nat.le_refl _) cs⟩
        · obtain ⟨K, rfl⟩ : ∃ K : Nat, gk = K + 1 := ⟨gk - 1, by omega⟩
          have i1 : (i : Int) < 3 := by omega
          have i0 : (0 : Int) ≤ (i : Int) := by omega
          have hw := fun w' => word_any nonce (4 * i) w' (by omega) (by omega)
          have e4 : ((4 * i : Nat) : Int) = 4 * (i : Int) := by omega
          rw [e4] at hw
          obtain ⟨q, hq⟩ : ∃ q, q = wordAt nonce (4 * i) := ⟨_, rfl⟩
          rw [← hq] at hw
          have hl := nonced_len key nonce i
          have hS : ∀ w1, Below wr.heap.size wr w1 → Words w1 (w.heap.size + 1) 184 (nonced key nonce i) := fun w1 b => hW.below b
          have hZ2 : ∀ w1, Below wr.heap.size wr w1 → ∃ z, w1.heap[w.heap.size]? = some (.cells z 184 (0, 0)) ∧ z.size = 16 := fun w1 b => hZ.imp fun z h => ⟨(b.block _ (block_lt h.1)).trans h.1, h.2⟩
          replace hZ := Lib.hid hZ
          replace hZ2 := Lib.hid hZ2
          replace hW := Lib.hid hW
          replace hw := Lib.hid hw
          replace hS := Lib.hid hS
          replace hq := Lib.hid hq
          go_wp2_with (go_at_call 126; (with_reducible refine (hw.out _).mono ?_); rintro e w1 ⟨rfl, b1⟩; have W1 := hS.out _ b1; have f1 := W1.free (13 + i); have c1 := W1.cell (i := 13 + i) (by omega); replace W1 := Lib.hid W1)
          go_roundg K
          case measure => omega
          case rel =>
            refine ⟨i + 1, by go_num, by omega, ?_, ?_, (belowCont hB b1).setCell (by simp) _⟩
            · have e := W1.out.put (13 + i) q
              show Words _ _ _ ((nonced key nonce i).set (13 + i) (wordAt nonce (4 * i)))
              rw [← hq.out]; exact e
            · obtain ⟨z, h1, h2⟩ := hZ2.out _ b1
              exact ⟨z, (Below.heap_setCell w1 _ _ _ (by simp)).trans h1, h2⟩
    · obtain ⟨K, rfl⟩ : ∃ K : Nat, gk = K + 1 := ⟨gk - 1, by omega⟩
      have i1 : (i : Int) < 8 := by omega
      have i0 : (0 : Int) ≤ (i : Int) := by omega
      have hw := fun w' => word_any key (4 * i) w' (by omega) (by omega)
      have e4 : ((4 * i : Nat) : Int) = 4 * (i : Int) := by omega
      rw [e4] at hw
      obtain ⟨q, hq⟩ : ∃ q, q = wordAt key (4 * i) := ⟨_, rfl⟩
      rw [← hq] at hw
      have hl := keyed_len key i
      have hS : ∀ w1, Below wr.heap.size wr w1 → Words w1 (w.heap.size + 1) 184 (keyed key i) := fun w1 b => hW.below b
      have hZ2 : ∀ w1, Below wr.heap.size wr w1 → ∃ z, w1.heap[w.heap.size]? = some (.cells z 184 (0, 0)) ∧ z.size = 16 := fun w1 b => hZ.imp fun z h => ⟨(b.block _ (block_lt h.1)).trans h.1, h.2⟩
      replace hZ := Lib.hid hZ
      replace hZ2 := Lib.hid hZ2
      replace hW := Lib.hid hW
      replace hw := Lib.hid hw
      replace hS := Lib.hid hS
      replace hq := Lib.hid hq
      go_wp2_with (go_at_call 126; (with_reducible refine (hw.out _).mono ?_); rintro e w1 ⟨rfl, b1⟩; have W1 := hS.out _ b1; have f1 := W1.free (4 + i); have c1 := W1.cell (i := 4 + i) (by omega); replace W1 := Lib.hid W1)
      go_roundg K
      case measure => omega
      case rel =>
        refine ⟨i + 1, by go_num, by omega, ?_, ?_, (belowCont hB b1).setCell (by simp) _⟩
        · have e := W1.out.put (4 + i) q
          show Words _ _ _ ((keyed key i).set (4 + i) (wordAt key (4 * i)))
          rw [← hq.out]; exact e
        · obtain ⟨z, h1, h2⟩ := hZ2.out _ b1
          exact ⟨z, (Below.heap_setCell w1 _ _ _ (by simp)).trans h1, h2⟩
end Go.Proofs.YtcdcipfojfnblaaGreatDoor.chacha
end
section
namespace Go.Proofs.YtcdcipfojfnblaaGreatDoor.chacha
open Go.RowKit
attribute [local go_sem ↓] Go.wp_at_zero Go.wp_at_succ
set_option linter.unusedVariables false
set_option maxRecDepth 100000

def cols (xs : List Nat) : Nat → List Nat
  | 0 => xs
  | k + 1 => quarterL (cols xs k) k (4 + k) (8 + k) (12 + k)
def diags (xs : List Nat) : Nat → List Nat
  | 0 => xs
  | k + 1 => quarterL (diags xs k) k (4 + (k + 1) % 4) (8 + (k + 2) % 4) (12 + (k + 3) % 4)
def rounds (xs : List Nat) : Nat → List Nat
  | 0 => xs
  | k + 1 => diags (cols (rounds xs k) 4) 4
def Good (xs : List Nat) : Prop := xs.length = 16 ∧ Small xs
theorem Good.quarter {xs : List Nat} (h : Good xs) (a b c d : Nat) : Good (quarterL xs a b c d) := by
  refine ⟨by simp [quarterL, xorRot_len, addTo_len, h.1], ?_⟩
  unfold quarterL
  exact ((((((((h.2.addTo _ _).xorRot _ _ _ (by omega)).addTo _ _).xorRot _ _ _ (by omega)).addTo _ _).xorRot _ _ _ (by omega)).addTo _ _).xorRot _ _ _ (by omega))
theorem Good.cols {xs : List Nat} (h : Good xs) (k : Nat) : Good (cols xs k) := by
  induction k with
  | zero => exact h
  | succ k ih => exact ih.quarter _ _ _ _
theorem Good.diags {xs : List Nat} (h : Good xs) (k : Nat) : Good (diags xs k) := by
  induction k with
  | zero => exact h
  | succ k ih => exact ih.quarter _ _ _ _
theorem Good.rounds {xs : List Nat} (h : Good xs) (k : Nat) : Good (rounds xs k) := by
  induction k with
  | zero => exact h
  | succ k ih => exact (ih.cols 4).diags 4
def byteN (n : Nat) : Value := .int .u8 (n : Int)
/-- the bytes of so many words, the lowest first -/
def outL (ns : List Nat) : Nat → List Nat
  | 0 => List.replicate 64 0
  | k + 1 => ((((outL ns k).set (4 * k) (ns.getD k 0 % 256)).set (4 * k + 1) (ns.getD k 0 / 256 % 256)).set (4 * k + 2) (ns.getD k 0 / 65536 % 256)).set (4 * k + 3) (ns.getD k 0 / 16777216 % 256)
def sums (xs ys : List Nat) : List Nat := (List.range 16).map fun i => add32 (xs.getD i 0) (ys.getD i 0)
def blockL (xs : List Nat) : List Nat := outL (sums (rounds xs 10) xs) 16

theorem boxed2 (w : World) (cs : Array Value) (t : TypeId) (o : Obj) : ((w.alloc (.cells cs t)).alloc o).heap[w.heap.size]? = some (.cells cs t (0, 0)) := by
  rw [Below.heap_alloc _ _ _ (by simp)]
  exact heap_alloc_new w _
theorem boxed3 (w : World) (cs : Array Value) (t : TypeId) (o o2 : Obj) : (((w.alloc o).alloc o2).alloc (.cells cs t)).heap[w.heap.size + 1 + 1]? = some (.cells cs t (0, 0)) := by
  have := heap_alloc_new ((w.alloc o).alloc o2) (.cells cs t)
  simpa using this
theorem boxed1 (w : World) (cs : Array Value) (t : TypeId) (o o2 : Obj) : (((w.alloc o).alloc (.cells cs t)).alloc o2).heap[w.heap.size + 1]? = some (.cells cs t (0, 0)) := by
  have := boxed2 (w.alloc o) cs t o2
  simpa using this
theorem boxed0 (w : World) (cs : Array Value) (t : TypeId) (o o2 : Obj) : (((w.alloc (.cells cs t)).alloc o).alloc o2).heap[w.heap.size]? = some (.cells cs t (0, 0)) := by
  rw [Below.heap_alloc _ _ _ (by simp; omega)]
  exact boxed2 w cs t o
theorem setRow_far (w : World) (g k : Nat) (cs : Array Value) (h : k ≠ g) : (w.setRow g cs).heap[k]? = w.heap[k]? := by
  simp only [World.setRow, Array.getElem?_modify]
  rw [if_neg (fun e => h e.symm)]
def Bytes8 (w : World) (g : Nat) (l : List Nat) : Prop := w.heap[g]? = some (.cells (l.map byteN).toArray 186 (0, 0))
theorem Bytes8.cell {w : World} {g : Nat} {l : List Nat} (h : Bytes8 w g l) {i : Nat} (hi : i < l.length) : w.cell? ⟨g, i, none⟩ = some (.int .u8 ((l.getD i 0 : Nat) : Int)) := by
  rw [cell_of_row _ _ i _ _ _ h]; simp [byteN, List.getElem?_eq_getElem hi, List.getD]
theorem Bytes8.free {w : World} {g : Nat} {l : List Nat} (h : Bytes8 w g l) (i : Nat) : w.frozen? ⟨g, i, none⟩ = false := by unfold Bytes8 at h; simp [World.frozen?, h]
theorem Bytes8.put {w : World} {g : Nat} {l : List Nat} (h : Bytes8 w g l) (i n : Nat) : Bytes8 (w.setCell ⟨g, i, none⟩ (.int .u8 (n : Int))) g (l.set i n) := by
  unfold Bytes8 at h ⊢; simp [World.setCell, Array.getElem?_modify, h, List.map_set, byteN]
theorem Bytes8.keep {w w' : World} {g : Nat} {l : List Nat} (h : Bytes8 w g l) {X : List Nat} (k : Keeps X w w') (hg : g ∉ X) : Bytes8 w' g l := (k.block _ (block_lt h) hg).trans h
theorem outL_len (ns : List Nat) (k : Nat) : (outL ns k).length = 64 := by
  induction k with
  | zero => simp [outL]
  | succ k ih => simp [outL, ih]
/-- what stands while a state is stirred -/
def Stir (w wr : World) (xs ys : List Nat) : Prop :=
  Words wr w.heap.size 184 xs ∧ Words wr (w.heap.size + 1 + 1) 184 ys ∧ (∃ z, wr.heap[w.heap.size + 1]? = some (.cells z 186 (0, 0)) ∧ z.size = 64) ∧ Below w.heap.size w wr
theorem Stir.words {w wr : World} {xs ys : List Nat} (h : Stir w wr xs ys) : Words wr (w.heap.size + 1 + 1) 184 ys := h.2.1
theorem Stir.next {w wr w1 : World} {xs ys zs : List Nat} (h : Stir w wr xs ys) (k : Keeps [w.heap.size + 1 + 1] wr w1) (hz : Words w1 (w.heap.size + 1 + 1) 184 zs) : Stir w w1 xs zs :=
  ⟨h.1.keep k (by simp; omega), hz, h.2.2.1.imp fun z hz => ⟨(k.block _ (block_lt hz.1) (by simp)).trans hz.1, hz.2⟩, h.2.2.2.trans (k.below h.2.2.2.size (by simp; omega))⟩
theorem Stir.keep {w wr w1 : World} {xs ys : List Nat} {G : Nat} (h : Stir w wr xs ys) (k : Keeps [G] wr w1) (hG : w.heap.size + 1 + 1 < G) : Stir w w1 xs ys :=
  ⟨h.1.keep k (by simp; omega), h.2.1.keep k (by simp; omega), h.2.2.1.imp fun z hz => ⟨(k.block _ (block_lt hz.1) (by simp; omega)).trans hz.1, hz.2⟩, h.2.2.2.trans (k.below h.2.2.2.size (by simp; omega))⟩
set_option maxRecDepth 100000 in
set_option maxHeartbeats 8000000 in
theorem stirred_any (xs : List Nat) (hg : Good xs) (w : World) :
    Calls Tryz.prog 111 #[.agg (xs.map word).toArray] w fun e w' => e = .returned (.agg ((blockL xs).map byteN).toArray) ∧ Below w.heap.size w w' := by
  obtain ⟨cs, hcs⟩ : ∃ cs, cs = (xs.map word).toArray := ⟨_, rfl⟩
  have hsz : cs.size = 16 := by rw [hcs]; simp [hg.1]
  have h1c : cs.all (·.oneCell') = true := by
    rw [hcs, Array.all_eq_true_iff_forall_mem]
    intro v hv
    simp at hv
    obtain ⟨n, _, rfl⟩ := hv
    rfl
  have hi16 : (Tryz.prog.info? 184).map (·.size) = some 16 := by kernel_rfl
  rw [← hcs]
  replace h1c := Lib.hid h1c
  replace hi16 := Lib.hid hi16
  replace hcs := Lib.hid hcs
  go_enter Tryz.func111, Tryz.ntmps111
  go_wp2_with (first | (refine wpList_load_row rfl 184 (.tmp 1) rfl w.heap.size rfl 184 cs (0, 0) _ (boxed2 _ _ _ _) Tryz.underlying184 rfl (by rw [hsz]; exact hi16.out) ?_) | (refine wpList_store_row rfl 184 (.tmp 3) (.tmp 9) rfl (w.heap.size + 1 + 1) cs rfl rfl 184 _ (boxed3 _ _ _ _ _) (by rw [hsz]; exact hi16.out) (by rw [hsz]; rfl) h1c.out ?_))
  go_loopg [10] 10 (fun gn s10 wr => ∃ i : Nat, s10 = .int .i64 (i : Int) ∧ i + gn = 10 ∧ Stir w wr xs (rounds xs i))
  case atStart =>
    refine ⟨0, rfl, rfl, ?_, ?_, ⟨_, (setRow_far _ _ _ _ (by omega)).trans (boxed1 _ _ _ _ _), rfl⟩, ?_⟩
    · unfold Words; rw [← hcs.out]; exact (setRow_far _ _ _ _ (by omega)).trans (boxed0 _ _ _ _ _)
    · show Words _ _ _ xs
      unfold Words; rw [← hcs.out]; exact setRow_heap _ _ _ cs 184 (0, 0) (boxed3 _ _ _ _ _)
    · exact belowRow (by go_grown) (by omega) cs
  case round =>
    obtain ⟨i, rfl, hi, hS⟩ := hrel
    by_cases h0 : gk = 0
    · obtain rfl : i = 10 := by omega
      have hG := hg.rounds 10
      obtain ⟨zs, hzs⟩ : ∃ zs, zs = rounds xs 10 := ⟨_, rfl⟩
      rw [← hzs] at hS hG
      have hs0 : Stir w (wr.alloc (.cells ((List.replicate 64 0).map byteN).toArray 186)) xs zs := hS.next ((Keeps.refl _ wr).alloc _) (hS.words.keep ((Keeps.refl [] wr).alloc _) (by simp))
      have hb0 : Bytes8 (wr.alloc (.cells ((List.replicate 64 0).map byteN).toArray 186)) wr.heap.size (outL (sums zs xs) 0) := heap_alloc_new wr _
      obtain ⟨G, hGG⟩ : ∃ G, G = wr.heap.size := ⟨_, rfl⟩
      have hGw : w.heap.size + 1 + 1 < G := by rw [hGG]; exact block_lt hS.words
      replace hS := Lib.hid hS
      replace hG := Lib.hid hG
      replace hzs := Lib.hid hzs
      replace hs0 := Lib.hid hs0
      replace hb0 := Lib.hid hb0
      clear h0 hi
      go_wp2
      go_loopg [43] 16 (fun gn s43 w4 => ∃ i : Nat, s43 = .int .i64 (i : Int) ∧ i + gn = 16 ∧ Stir w w4 xs zs ∧ Bytes8 w4 G (outL (sums zs xs) i))
      case atStart => exact ⟨0, rfl, rfl, hs0.out, by rw [hGG]; exact hb0.out⟩
      case round =>
        rw [← hGG]
        replace hGG := Lib.hid hGG
        obtain ⟨i, rfl, hi, hT, hO⟩ := hrel
        by_cases h0 : gk = 0
        · obtain rfl : i = 16 := by omega
          obtain ⟨z, hz1, hz2⟩ := hT.2.2.1
          have hBel := hT.2.2.2
          obtain ⟨cs6, hcs6⟩ : ∃ c, c = ((outL (sums zs xs) 16).map byteN).toArray := ⟨_, rfl⟩
          have hs6 : cs6.size = 64 := by rw [hcs6]; simp [outL_len]
          have h16 : cs6.all (·.oneCell') = true := by
            rw [hcs6, Array.all_eq_true_iff_forall_mem]
            intro v hv
            simp at hv
            obtain ⟨n, _, rfl⟩ := hv
            rfl
          have hG6 : wr.heap[G]? = some (.cells cs6 186 (0, 0)) := by rw [hcs6]; exact hO
          have hi64 : (Tryz.prog.info? 186).map (·.size) = some 64 := by kernel_rfl
          have hres := setRow_heap wr (w.heap.size + 1) z cs6 186 (0, 0) hz1
          replace hi64 := Lib.hid hi64
          replace hres := Lib.hid hres
          replace hG6 := Lib.hid hG6
          replace hz1 := Lib.hid hz1
          replace hcs6 := Lib.hid hcs6
          replace h16 := Lib.hid h16
          replace hT := Lib.hid hT
          replace hO := Lib.hid hO
          clear hi h0
          go_wp2_with (first | (refine wpList_load_row rfl 186 (.tmp 6) rfl G rfl 186 cs6 (0, 0) _ hG6.out Tryz.underlying186 rfl (by rw [hs6]; exact hi64.out) ?_) | (refine wpList_store_row rfl 186 (.tmp 2) (.tmp 80) rfl (w.heap.size + 1) cs6 rfl rfl 186 z hz1.out (by rw [hs6]; exact hi64.out) (by rw [hz2, hs6]) h16.out ?_))
          exact bodyPost_ret (v := .agg cs6) (results_cell_row rfl _ _ (w.heap.size + 1) 186 cs6 (0, 0) _ rfl hres.out Tryz.underlying186 rfl (by rw [hs6]; exact hi64.out)) rfl ⟨by rw [hcs6.out, hzs.out]; rfl, belowRow hBel (by omega) cs6⟩
        · obtain ⟨K, rfl⟩ : ∃ K : Nat, gk = K + 1 := ⟨gk - 1, by omega⟩
          have i1 : (i : Int) < 16 := by omega
          have i0 : (0 : Int) ≤ (i : Int) := by omega
          have ca := hT.words.cell (i := i) (by rw [hG.out.1]; omega)
          have cb := hT.1.cell (i := i) (by rw [hg.1]; omega)
          obtain ⟨y1, e1⟩ : ∃ y, zs.getD i 0 = y := ⟨_, rfl⟩
          obtain ⟨y2, e2⟩ : ∃ y, xs.getD i 0 = y := ⟨_, rfl⟩
          rw [e1] at ca; rw [e2] at cb
          obtain ⟨z, hz⟩ : ∃ z, add32 y1 y2 = z := ⟨_, rfl⟩
          have ez : ((y1 : Int) + y2) % 4294967296 = (z : Int) := by rw [← hz]; simp [add32]
          have hsum : (sums zs xs).getD i 0 = z := by rw [← hz, ← e1, ← e2]; simp [sums, List.getD, show i < 16 by omega]
          replace hsum := Lib.hid hsum
          replace hT := Lib.hid hT
          replace hO := Lib.hid hO
          clear hz e1 e2
          replace hGw := Lib.hid hGw
          go_upto_region 19 with fail
          go_cut [8] from 44 to 79 (fun v wx => v = .int .u32 (z : Int) ∧ wx = wr.drew)
          case first =>
            go_region
            all_goals go_wp2_with fail
            all_goals go_meet
            all_goals exact ⟨by rw [ez], rfl⟩
          case rest =>
          obtain ⟨rfl, rfl⟩ := hcut
          obtain ⟨l0, hl0⟩ : ∃ l, l = outL (sums zs xs) i := ⟨_, rfl⟩
          have B0 : Bytes8 wr.drew G l0 := by rw [hl0]; exact hO.out
          have L0 : l0.length = 64 := by rw [hl0]; exact outL_len _ _
          have K0 : Keeps [G] wr wr.drew := (Keeps.refl [G] wr).drew
          replace hl0 := Lib.hid hl0
          clear ca cb ez
          obtain ⟨v0, hv0⟩ : ∃ v : Nat, v = z % 256 := ⟨_, rfl⟩
          have ev0 : (z : Int) % 256 = (v0 : Int) := by omega
          go_upto_region 20 with fail
          go_cut [] from 44 to 79 (fun wx => Bytes8 wx G (l0.set (4 * i) v0) ∧ Keeps [G] wr wx)
          case first =>
            have cc : wr.cell? ⟨G, 4 * i, none⟩ = some (.int .u8 ((l0.getD (4 * i) 0 : Nat) : Int)) := B0.cell (by omega)
            have ff : wr.frozen? ⟨G, 4 * i, none⟩ = false := B0.free (4 * i)
            have bnd : 4 * (i : Int) < 64 := by omega
            have bn0 : 0 ≤ 4 * (i : Int) := by omega
            have P := B0.put (4 * i) v0
            have Q := K0.setCell (p := ⟨G, 4 * i, none⟩) (Or.inl (by simp)) (.int .u8 (v0 : Int))
            replace P := Lib.hid P; replace Q := Lib.hid Q; replace B0 := Lib.hid B0; replace K0 := Lib.hid K0; replace hv0 := Lib.hid hv0
            go_wp2
            try go_meet
            exact ⟨P.out, Q.out⟩
          case rest =>
          obtain ⟨B1, K1⟩ := hcut
          obtain ⟨l1, hl1⟩ : ∃ l, l = l0.set (4 * i) v0 := ⟨_, rfl⟩
          rw [← hl1] at B1
          have L1 : l1.length = 64 := by rw [hl1]; simp [L0]
          replace hl1 := Lib.hid hl1
          replace hv0 := Lib.hid hv0
          clear B0 K0 L0 ev0
          obtain ⟨v1, hv1⟩ : ∃ v : Nat, v = z / 256 % 256 := ⟨_, rfl⟩
          have ev1 : (z : Int) / 256 % 256 = (v1 : Int) := by omega
          go_upto_region 21 with fail
          go_cut [] from 44 to 79 (fun wx => Bytes8 wx G (l1.set (4 * i + 1) v1) ∧ Keeps [G] wr wx)
          case first =>
            have cc : wc.cell? ⟨G, 4 * i + 1, none⟩ = some (.int .u8 ((l1.getD (4 * i + 1) 0 : Nat) : Int)) := B1.cell (by omega)
            have ff : wc.frozen? ⟨G, 4 * i + 1, none⟩ = false := B1.free (4 * i + 1)
            have bnd : 4 * (i : Int) + 1 < 64 := by omega
            have bn0 : 0 ≤ 4 * (i : Int) + 1 := by omega
            have P := B1.put (4 * i + 1) v1
            have Q := K1.setCell (p := ⟨G, 4 * i + 1, none⟩) (Or.inl (by simp)) (.int .u8 (v1 : Int))
            replace P := Lib.hid P; replace Q := Lib.hid Q; replace B1 := Lib.hid B1; replace K1 := Lib.hid K1; replace hv1 := Lib.hid hv1
            go_wp2
            try go_meet
            exact ⟨P.out, Q.out⟩
          case rest =>
          obtain ⟨B2, K2⟩ := hcut
          obtain ⟨l2, hl2⟩ : ∃ l, l = l1.set (4 * i + 1) v1 := ⟨_, rfl⟩
          rw [← hl2] at B2
          have L2 : l2.length = 64 := by rw [hl2]; simp [L1]
          replace hl2 := Lib.hid hl2
          replace hv1 := Lib.hid hv1
          clear B1 K1 L1 ev1
          obtain ⟨v2, hv2⟩ : ∃ v : Nat, v = z / 65536 % 256 := ⟨_, rfl⟩
          have ev2 : (z : Int) / 65536 % 256 = (v2 : Int) := by omega
          go_upto_region 22 with fail
          go_cut [] from 44 to 79 (fun wx => Bytes8 wx G (l2.set (4 * i + 2) v2) ∧ Keeps [G] wr wx)
          case first =>
            have cc : wc.cell? ⟨G, 4 * i + 2, none⟩ = some (.int .u8 ((l2.getD (4 * i + 2) 0 : Nat) : Int)) := B2.cell (by omega)
            have ff : wc.frozen? ⟨G, 4 * i + 2, none⟩ = false := B2.free (4 * i + 2)
            have bnd : 4 * (i : Int) + 2 < 64 := by omega
            have bn0 : 0 ≤ 4 * (i : Int) + 2 := by omega
            have P := B2.put (4 * i + 2) v2
            have Q := K2.setCell (p := ⟨G, 4 * i + 2, none⟩) (Or.inl (by simp)) (.int .u8 (v2 : Int))
            replace P := Lib.hid P; replace Q := Lib.hid Q; replace B2 := Lib.hid B2; replace K2 := Lib.hid K2; replace hv2 := Lib.hid hv2
            go_wp2
            try go_meet
            exact ⟨P.out, Q.out⟩
          case rest =>
          obtain ⟨B3, K3⟩ := hcut
          obtain ⟨l3, hl3⟩ : ∃ l, l = l2.set (4 * i + 2) v2 := ⟨_, rfl⟩
          rw [← hl3] at B3
          have L3 : l3.length = 64 := by rw [hl3]; simp [L2]
          replace hl3 := Lib.hid hl3
          replace hv2 := Lib.hid hv2
          clear B2 K2 L2 ev2
          obtain ⟨v3, hv3⟩ : ∃ v : Nat, v = z / 16777216 % 256 := ⟨_, rfl⟩
          have ev3 : (z : Int) / 16777216 % 256 = (v3 : Int) := by omega
          go_upto_region 23 with fail
          have cc : wc.cell? ⟨G, 4 * i + 3, none⟩ = some (.int .u8 ((l3.getD (4 * i + 3) 0 : Nat) : Int)) := B3.cell (by omega)
          have ff : wc.frozen? ⟨G, 4 * i + 3, none⟩ = false := B3.free (4 * i + 3)
          have bnd : 4 * (i : Int) + 3 < 64 := by omega
          have bn0 : 0 ≤ 4 * (i : Int) + 3 := by omega
          have P := B3.put (4 * i + 3) v3
          have Q := K3.setCell (p := ⟨G, 4 * i + 3, none⟩) (Or.inl (by simp)) (.int .u8 (v3 : Int))
          replace P := Lib.hid P; replace Q := Lib.hid Q; replace B3 := Lib.hid B3; replace K3 := Lib.hid K3; replace hv3 := Lib.hid hv3
          go_wp2
          rw [hGG.out]
          go_roundg K
          case measure => omega
          case rel =>
            rw [← hGG.out]
            refine ⟨i + 1, by go_num, by omega, hT.out.keep Q.out hGw.out, ?_⟩
            show Bytes8 _ G (((((outL (sums zs xs) i).set (4 * i) ((sums zs xs).getD i 0 % 256)).set (4 * i + 1) ((sums zs xs).getD i 0 / 256 % 256)).set (4 * i + 2) ((sums zs xs).getD i 0 / 65536 % 256)).set (4 * i + 3) ((sums zs xs).getD i 0 / 16777216 % 256))
            rw [hsum.out, ← hv0.out, ← hv1.out, ← hv2.out, ← hv3.out, ← hl0.out, ← hl1.out, ← hl2.out, ← hl3.out]
            exact P.out
    · obtain ⟨K, rfl⟩ : ∃ K : Nat, gk = K + 1 := ⟨gk - 1, by omega⟩
      have i1 : (i : Int) < 10 := by omega
      have i0 : (0 : Int) ≤ (i : Int) := by omega
      have hG := hg.rounds i
      obtain ⟨ys, hys⟩ : ∃ ys, ys = rounds xs i := ⟨_, rfl⟩
      rw [← hys] at hS hG
      replace hS := Lib.hid hS
      replace hG := Lib.hid hG
      replace hys := Lib.hid hys
      go_wp2
      go_loopg [12] 4 (fun gn s12 wr => ∃ j : Nat, s12 = .int .i64 (j : Int) ∧ j + gn = 4 ∧ Stir w wr xs (cols ys j))
      case atStart => exact ⟨0, rfl, rfl, hS.out⟩
      case round =>
        obtain ⟨j, rfl, hj, hT⟩ := hrel
        by_cases h0 : gk = 0
        · obtain rfl : j = 4 := by omega
          replace hT := Lib.hid hT
          clear h0 hj
          go_wp2
          go_loopg [24] 4 (fun gn s24 wr => ∃ j : Nat, s24 = .int .i64 (j : Int) ∧ j + gn = 4 ∧ Stir w wr xs (diags (cols ys 4) j))
          case atStart => exact ⟨0, rfl, rfl, hT.out⟩
          case round =>
            clear hT
            obtain ⟨j, rfl, hj, hT⟩ := hrel
            by_cases h0 : gk = 0
            · obtain rfl : j = 4 := by omega
              replace hT := Lib.hid hT
              clear h0 hj
              go_wp2
              go_roundg K
              case measure => omega
              case rel => exact ⟨i + 1, by go_num, by omega, by show Stir w _ xs (diags (cols (rounds xs i) 4) 4); rw [← hys.out]; exact hT.out⟩
            obtain ⟨K3, rfl⟩ : ∃ K3 : Nat, gk = K3 + 1 := ⟨gk - 1, by omega⟩
            have hGj := (hG.out.cols 4).diags j
            have hj4 : j = 0 ∨ j = 1 ∨ j = 2 ∨ j = 3 := by omega
            rcases hj4 with rfl | rfl | rfl | rfl
            · have hq : ∀ w', Words w' (w.heap.size + 1 + 1) 184 (diags (cols ys 4) 0) → Calls Tryz.prog 127 #[.pointer (some ⟨w.heap.size + 1 + 1, 0, none⟩), .int .i64 0, .int .i64 5, .int .i64 10, .int .i64 15] w' fun e w2 => e = .returned (.tuple #[]) ∧ Words w2 (w.heap.size + 1 + 1) 184 (quarterL (diags (cols ys 4) 0) 0 5 10 15) ∧ Keeps [w.heap.size + 1 + 1] w' w2 := fun w' h => quarter_any (w.heap.size + 1 + 1) 184 (diags (cols ys 4) 0) 0 5 10 15 w' h hGj.1 hGj.2 (by omega) (by omega) (by omega) (by omega)
              replace hq := Lib.hid hq
              replace hT := Lib.hid hT
              clear hGj
              go_wp2_with (go_at_call 127; (with_reducible refine (hq.out _ hT.out.words).mono ?_); rintro e w1 ⟨rfl, W1, K1⟩; replace W1 := Lib.hid W1; replace K1 := Lib.hid K1)
              go_roundg K3
              case measure => omega
              case rel => exact ⟨1, by go_num, by omega, hT.out.next K1.out W1.out⟩
            · have hq : ∀ w', Words w' (w.heap.size + 1 + 1) 184 (diags (cols ys 4) 1) → Calls Tryz.prog 127 #[.pointer (some ⟨w.heap.size + 1 + 1, 0, none⟩), .int .i64 1, .int .i64 6, .int .i64 11, .int .i64 12] w' fun e w2 => e = .returned (.tuple #[]) ∧ Words w2 (w.heap.size + 1 + 1) 184 (quarterL (diags (cols ys 4) 1) 1 6 11 12) ∧ Keeps [w.heap.size + 1 + 1] w' w2 := fun w' h => quarter_any (w.heap.size + 1 + 1) 184 (diags (cols ys 4) 1) 1 6 11 12 w' h hGj.1 hGj.2 (by omega) (by omega) (by omega) (by omega)
              replace hq := Lib.hid hq
              replace hT := Lib.hid hT
              clear hGj
              go_wp2_with (go_at_call 127; (with_reducible refine (hq.out _ hT.out.words).mono ?_); rintro e w1 ⟨rfl, W1, K1⟩; replace W1 := Lib.hid W1; replace K1 := Lib.hid K1)
              go_roundg K3
              case measure => omega
              case rel => exact ⟨2, by go_num, by omega, hT.out.next K1.out W1.out⟩
            · have hq : ∀ w', Words w' (w.heap.size + 1 + 1) 184 (diags (cols ys 4) 2) → Calls Tryz.prog 127 #[.pointer (some ⟨w.heap.size + 1 + 1, 0, none⟩), .int .i64 2, .int .i64 7, .int .i64 8, .int .i64 13] w' fun e w2 => e = .returned (.tuple #[]) ∧ Words w2 (w.heap.size + 1 + 1) 184 (quarterL (diags (cols ys 4) 2) 2 7 8 13) ∧ Keeps [w.heap.size + 1 + 1] w' w2 := fun w' h => quarter_any (w.heap.size + 1 + 1) 184 (diags (cols ys 4) 2) 2 7 8 13 w' h hGj.1 hGj.2 (by omega) (by omega) (by omega) (by omega)
              replace hq := Lib.hid hq
              replace hT := Lib.hid hT
              clear hGj
              go_wp2_with (go_at_call 127; (with_reducible refine (hq.out _ hT.out.words).mono ?_); rintro e w1 ⟨rfl, W1, K1⟩; replace W1 := Lib.hid W1; replace K1 := Lib.hid K1)
              go_roundg K3
              case measure => omega
              case rel => exact ⟨3, by go_num, by omega, hT.out.next K1.out W1.out⟩
            · have hq : ∀ w', Words w' (w.heap.size + 1 + 1) 184 (diags (cols ys 4) 3) → Calls Tryz.prog 127 #[.pointer (some ⟨w.heap.size + 1 + 1, 0, none⟩), .int .i64 3, .int .i64 4, .int .i64 9, .int .i64 14] w' fun e w2 => e = .returned (.tuple #[]) ∧ Words w2 (w.heap.size + 1 + 1) 184 (quarterL (diags (cols ys 4) 3) 3 4 9 14) ∧ Keeps [w.heap.size + 1 + 1] w' w2 := fun w' h => quarter_any (w.heap.size + 1 + 1) 184 (diags (cols ys 4) 3) 3 4 9 14 w' h hGj.1 hGj.2 (by omega) (by omega) (by omega) (by omega)
              replace hq := Lib.hid hq
              replace hT := Lib.hid hT
              clear hGj
              go_wp2_with (go_at_call 127; (with_reducible refine (hq.out _ hT.out.words).mono ?_); rintro e w1 ⟨rfl, W1, K1⟩; replace W1 := Lib.hid W1; replace K1 := Lib.hid K1)
              go_roundg K3
              case measure => omega
              case rel => exact ⟨4, by go_num, by omega, hT.out.next K1.out W1.out⟩
        · obtain ⟨K2, rfl⟩ : ∃ K2 : Nat, gk = K2 + 1 := ⟨gk - 1, by omega⟩
          have j1 : (j : Int) < 4 := by omega
          have j0 : (0 : Int) ≤ (j : Int) := by omega
          have hGj := hG.out.cols j
          have hq : ∀ w', Words w' (w.heap.size + 1 + 1) 184 (cols ys j) → Calls Tryz.prog 127 #[.pointer (some ⟨w.heap.size + 1 + 1, 0, none⟩), .int .i64 (j : Int), .int .i64 (4 + (j : Int)), .int .i64 (8 + (j : Int)), .int .i64 (12 + (j : Int))] w' fun e w2 => e = .returned (.tuple #[]) ∧ Words w2 (w.heap.size + 1 + 1) 184 (quarterL (cols ys j) j (4 + j) (8 + j) (12 + j)) ∧ Keeps [w.heap.size + 1 + 1] w' w2 := fun w' h => by
            have := quarter_any (w.heap.size + 1 + 1) 184 (cols ys j) j (4 + j) (8 + j) (12 + j) w' h hGj.1 hGj.2 (by omega) (by omega) (by omega) (by omega)
            rw [show ((4 + j : Nat) : Int) = 4 + (j : Int) by omega, show ((8 + j : Nat) : Int) = 8 + (j : Int) by omega, show ((12 + j : Nat) : Int) = 12 + (j : Int) by omega] at this
            exact this
          replace hq := Lib.hid hq
          replace hT := Lib.hid hT
          clear hGj
          go_wp2_with (go_at_call 127; (with_reducible refine (hq.out _ hT.out.words).mono ?_); rintro e w1 ⟨rfl, W1, K1⟩; replace W1 := Lib.hid W1; replace K1 := Lib.hid K1)
          go_roundg K2
          case measure => omega
          case rel => exact ⟨j + 1, by go_num, by omega, hT.out.next K1.out W1.out⟩
end Go.Proofs.YtcdcipfojfnblaaGreatDoor.chacha
end
section
namespace Go.Proofs.YtcdcipfojfnblaaGreatDoor.chacha
open Go.RowKit
set_option linter.unusedVariables false
set_option maxRecDepth 100000

/-- the state of a key and a nonce at this block -/
def stAt (key nonce : ByteArray) (n : Nat) : List Nat := (begunL key nonce).set 12 n
/-- the bytes of a state's block -/
def blockU (xs : List Nat) : List UInt8 := (blockL xs).map UInt8.ofNat
def padAt (key nonce : ByteArray) (j : Nat) : UInt8 := (blockU (stAt key nonce (j / 64 % 4294967296))).getD (j % 64) 0
/-- bytes of which the first m are turned -/
def turnedL (key nonce : ByteArray) (l : List UInt8) (m : Nat) : List UInt8 := l.mapIdx fun j b => if j < m then b ^^^ padAt key nonce j else b
theorem turnedL_len (key nonce : ByteArray) (l : List UInt8) (m : Nat) : (turnedL key nonce l m).length = l.length := by simp [turnedL]
theorem turnedL_zero (key nonce : ByteArray) (l : List UInt8) : turnedL key nonce l 0 = l := by
  apply List.ext_getElem
  · exact turnedL_len _ _ _ _
  · intro i h1 h2; simp [turnedL]
theorem turnedL_at (key nonce : ByteArray) (l : List UInt8) (m : Nat) (h : m < l.length) : (turnedL key nonce l m).getD m 0 = l.getD m 0 := by
  simp [turnedL, List.getD, List.getElem?_eq_getElem h]
theorem turnedL_step (key nonce : ByteArray) (l : List UInt8) (m : Nat) (h : m < l.length) : (turnedL key nonce l m).set m (l.getD m 0 ^^^ padAt key nonce m) = turnedL key nonce l (m + 1) := by
  apply List.ext_getElem
  · simp [turnedL]
  · intro i h1 h2
    simp only [turnedL, List.getElem_set, List.getElem_mapIdx]
    by_cases e : m = i
    · subst e; simp [List.getD, List.getElem?_eq_getElem h]
    · rw [if_neg e]
      have : (i < m) ↔ (i < m + 1) := by omega
      simp [this]
theorem turnedL_twice (key nonce : ByteArray) (l : List UInt8) (m : Nat) : turnedL key nonce (turnedL key nonce l m) m = l := by
  apply List.ext_getElem
  · simp [turnedL]
  · intro i h1 h2
    simp only [turnedL, List.getElem_mapIdx]
    split
    · rw [UInt8.xor_assoc, UInt8.xor_self, UInt8.xor_zero]
    · rfl
theorem byteAt_lt (s : ByteArray) (i : Nat) : byteAt s i < 256 := UInt8.toNat_lt _
theorem wordAt_lt (s : ByteArray) (i : Nat) : wordAt s i < 4294967296 := by
  have h0 := byteAt_lt s i
  have h1 := byteAt_lt s (i + 1)
  have h2 := byteAt_lt s (i + 2)
  have h3 := byteAt_lt s (i + 3)
  unfold wordAt; omega
theorem keyed_small (key : ByteArray) (k : Nat) : Small (keyed key k) := by
  induction k with
  | zero =>
    intro i
    show consts.getD i 0 < 4294967296
    rcases Nat.lt_or_ge i 16 with h | h
    · have : ∀ i : Fin 16, consts.getD i.1 0 < 4294967296 := by decide
      exact this ⟨i, h⟩
    · rw [List.getD_eq_getElem?_getD, List.getElem?_eq_none h]; decide
  | succ k ih => exact ih.set _ _ (wordAt_lt _ _)
theorem nonced_small (key nonce : ByteArray) (k : Nat) : Small (nonced key nonce k) := by
  induction k with
  | zero => exact keyed_small key 8
  | succ k ih => exact ih.set _ _ (wordAt_lt _ _)
theorem begun_good (key nonce : ByteArray) : Good (begunL key nonce) := ⟨nonced_len _ _ _, nonced_small _ _ _⟩
theorem stAt_good (key nonce : ByteArray) (n : Nat) (hn : n < 4294967296) : Good (stAt key nonce n) :=
  ⟨by simp [stAt, (begun_good key nonce).1], (begun_good key nonce).2.set _ _ hn⟩
theorem stAt_12 (key nonce : ByteArray) (n : Nat) : (stAt key nonce n).getD 12 0 = n := by
  have := (begun_good key nonce).1
  simp [stAt, List.getD, List.getElem?_set, this]
theorem stAt_set (key nonce : ByteArray) (n m : Nat) : (stAt key nonce n).set 12 m = stAt key nonce m := by simp [stAt]
theorem getD_set_far (xs : List Nat) (i j n : Nat) (h : i ≠ j) : (xs.set i n).getD j 0 = xs.getD j 0 := by
  simp [List.getD_eq_getElem?_getD, List.getElem?_set, h]
theorem keyed_12 (key : ByteArray) : ∀ k, k ≤ 8 → (keyed key k).getD 12 0 = 0
  | 0, _ => rfl
  | k + 1, h => (getD_set_far _ _ _ _ (by omega)).trans (keyed_12 key k (by omega))
theorem nonced_12 (key nonce : ByteArray) : ∀ k, (nonced key nonce k).getD 12 0 = 0
  | 0 => keyed_12 key 8 (Nat.le_refl _)
  | k + 1 => (getD_set_far _ _ _ _ (by omega)).trans (nonced_12 key nonce k)
theorem set_same (xs : List Nat) (i : Nat) : xs.set i (xs.getD i 0) = xs := by
  apply List.ext_getElem
  · simp
  · intro j h1 h2
    simp only [List.getElem_set]
    split
    · rename_i h; subst h; simp [List.getD_eq_getElem?_getD, List.getElem?_eq_getElem h2]
    · rfl
theorem stAt_zero (key nonce : ByteArray) : stAt key nonce 0 = begunL key nonce := by
  have h := nonced_12 key nonce 3
  have e := set_same (nonced key nonce 3) 12
  rw [h] at e
  exact e
theorem outL_lt (ns : List Nat) (k : Nat) : ∀ x ∈ outL ns k, x < 256 := by
  induction k with
  | zero => intro x hx; simp [outL] at hx; omega
  | succ k ih =>
    intro x hx
    rcases List.mem_or_eq_of_mem_set hx with hx | rfl
    · rcases List.mem_or_eq_of_mem_set hx with hx | rfl
      · rcases List.mem_or_eq_of_mem_set hx with hx | rfl
        · rcases List.mem_or_eq_of_mem_set hx with hx | rfl
          · exact ih x hx
          · exact Nat.mod_lt _ (by decide)
        · exact Nat.mod_lt _ (by decide)
      · exact Nat.mod_lt _ (by decide)
    · exact Nat.mod_lt _ (by decide)
theorem blockL_lt (xs : List Nat) : ∀ x ∈ blockL xs, x < 256 := outL_lt _ _
theorem blockL_len (xs : List Nat) : (blockL xs).length = 64 := outL_len _ _
theorem blockU_len (xs : List Nat) : (blockU xs).length = 64 := by simp [blockU, blockL_len]
theorem blockU_at (xs : List Nat) (i : Nat) (hi : i < 64) : ((blockU xs).getD i 0).toNat = (blockL xs).getD i 0 := by
  have h : i < (blockL xs).length := by rw [blockL_len]; exact hi
  have e := blockL_lt xs _ (List.getElem_mem h)
  simp only [blockU, List.getD, List.getElem?_map, List.getElem?_eq_getElem h]
  simp [UInt8.toNat_ofNat']
  omega
theorem Bytes8.at_ {w : World} {q : Nat} {xs : List Nat} (h : Bytes8 w q (blockL xs)) : BytesAt w q (blockU xs) :=
  ⟨block_lt h, fun i hi => ⟨by rw [blockU_len] at hi; rw [blockU_at xs i hi]; exact h.cell (by rw [blockL_len]; exact hi), h.free i⟩⟩
theorem xor_u8 (a b : UInt8) : bits .xor .u8 (a.toNat : Int) (b.toNat : Int) = (((a ^^^ b).toNat : Nat) : Int) := by
  rw [Go.u8_xor_nat _ _ (UInt8.toNat_lt _) (UInt8.toNat_lt _), UInt8.toNat_xor]
end Go.Proofs.YtcdcipfojfnblaaGreatDoor.chacha
end
section
namespace Go.Proofs.YtcdcipfojfnblaaGreatDoor.chacha
open Go.RowKit
attribute [local go_sem ↓] Go.wp_at_zero Go.wp_at_succ
set_option linter.unusedVariables false
set_option maxRecDepth 100000

theorem state16 : (Tryz.prog.info? 184).map (·.size) = some 16 := by kernel_rfl
theorem block64 : (Tryz.prog.info? 186).map (·.size) = some 64 := by kernel_rfl
theorem words_cells (xs : List Nat) : ((xs.map word).toArray).all (·.oneCell') = true := by
  rw [Array.all_eq_true_iff_forall_mem]
  intro v hv
  simp at hv
  obtain ⟨n, _, rfl⟩ := hv
  rfl
theorem bytes_cells (xs : List Nat) : ((xs.map byteN).toArray).all (·.oneCell') = true := by
  rw [Array.all_eq_true_iff_forall_mem]
  intro v hv
  simp at hv
  obtain ⟨n, _, rfl⟩ := hv
  rfl
theorem keepsRow (w : World) (g : Nat) (cs : Array Value) : Keeps [g] w (w.setRow g cs) :=
  ⟨rfl, rfl, rfl, by simp [World.setRow], fun k hk hx => setRow_far w g k cs (by simpa using hx)⟩
section
variable {ops : Array Oper} {rest : List Oper} {o : Oper} {a : Act} {w : World} {Q : Exit → Act → World → Prop}
theorem wpList_store_words (hgd : o.guard = none) (x y : Operand) (ho : o.op = .store 184 x y) (g : Nat) (xs : List Nat)
    (hx : a.eval x = .pointer (some ⟨g, 0, none⟩)) (hy : a.eval y = .agg (xs.map word).toArray) (hl : xs.length = 16)
    (hz : ∃ z, w.heap[g]? = some (.cells z 184 (0, 0)) ∧ z.size = 16)
    (h : ∀ w', Words w' g 184 xs → Keeps [g] w w' → wpList Tryz.prog ops Q rest (a.put o.dst undef) w') : wpList Tryz.prog ops Q (o :: rest) a w := by
  obtain ⟨z, hz1, hz2⟩ := hz
  have hs : ((xs.map word).toArray).size = 16 := by simp [hl]
  exact wpList_store_row hgd 184 x y ho g _ hx hy 184 z hz1 (by rw [hs]; exact state16) (by rw [hs, hz2]) (words_cells xs) (h _ (setRow_heap w g z _ 184 (0, 0) hz1) (keepsRow w g _))
theorem wpList_load_words (hgd : o.guard = none) (x : Operand) (ho : o.op = .load 184 x) (g : Nat) (xs : List Nat)
    (hx : a.eval x = .pointer (some ⟨g, 0, none⟩)) (hW : Words w g 184 xs) (hl : xs.length = 16)
    (h : wpList Tryz.prog ops Q rest (a.put o.dst (.agg (xs.map word).toArray)) w) : wpList Tryz.prog ops Q (o :: rest) a w := by
  have hs : ((xs.map word).toArray).size = 16 := by simp [hl]
  exact wpList_load_row hgd 184 x ho g hx 184 _ (0, 0) _ hW Tryz.underlying184 rfl (by rw [hs]; exact state16) h
theorem wpList_store_bytes8 (hgd : o.guard = none) (x y : Operand) (ho : o.op = .store 186 x y) (g : Nat) (xs : List Nat)
    (hx : a.eval x = .pointer (some ⟨g, 0, none⟩)) (hy : a.eval y = .agg (xs.map byteN).toArray) (hl : xs.length = 64)
    (hz : ∃ z, w.heap[g]? = some (.cells z 186 (0, 0)) ∧ z.size = 64)
    (h : ∀ w', Bytes8 w' g xs → Keeps [g] w w' → wpList Tryz.prog ops Q rest (a.put o.dst undef) w') : wpList Tryz.prog ops Q (o :: rest) a w := by
  obtain ⟨z, hz1, hz2⟩ := hz
  have hs : ((xs.map byteN).toArray).size = 64 := by simp [hl]
  exact wpList_store_row hgd 186 x y ho g _ hx hy 186 z hz1 (by rw [hs]; exact block64) (by rw [hs, hz2]) (bytes_cells xs) (h _ (setRow_heap w g z _ 186 (0, 0) hz1) (keepsRow w g _))
end
/-- a new block, and then only that block and newer ones change -/
theorem belowNew {w w1 w2 : World} {o : Obj} (h : Below w.heap.size w w1) (k : Keeps [w1.heap.size] (w1.alloc o) w2) : Below w.heap.size w w2 :=
  h.trans (((Below.refl _ w1).alloc h.size _).trans (k.below (by have := h.size; simp; omega) (by simp; exact h.size)))

end Go.Proofs.YtcdcipfojfnblaaGreatDoor.chacha
end
section
namespace Go.Proofs.YtcdcipfojfnblaaGreatDoor.chacha
open Go.RowKit
attribute [local go_sem ↓] Go.wp_at_zero Go.wp_at_succ
set_option linter.unusedVariables false
set_option maxRecDepth 100000

/-- what stands while bytes are turned: the state, and the bytes -/
def Tn (w wr : World) (S q : Nat) (xs : List Nat) (l : List UInt8) : Prop :=
  Words wr S 184 xs ∧ BytesAt wr q l ∧ S < q ∧ w.heap.size ≤ S ∧ Below w.heap.size w wr
theorem turnedL_full (key nonce : ByteArray) (l : List UInt8) (m : Nat) (h : l.length ≤ m) : turnedL key nonce l m = turnedL key nonce l l.length := by
  apply List.ext_getElem
  · simp [turnedL]
  · intro i h1 h2
    have h3 : i < l.length := by rw [turnedL_len] at h2; exact h2
    simp only [turnedL, List.getElem_mapIdx]
    rw [if_pos h3, if_pos (by omega)]
theorem Tn.next {w wr w1 : World} {S q X : Nat} {xs : List Nat} {l : List UInt8} (h : Tn w wr S q xs l) (k : Keeps [X] wr w1) (hX : q < X) : Tn w w1 S q xs l :=
  ⟨h.1.keep k (by have := h.2.2.1; simp; omega), h.2.1.keep k (by simp; omega), h.2.2.1, h.2.2.2.1, h.2.2.2.2.trans (k.below h.2.2.2.2.size (by have := h.2.2.1; have := h.2.2.2.1; simp; omega))⟩
theorem Tn.below {w wr w1 : World} {S q : Nat} {xs : List Nat} {l : List UInt8} (h : Tn w wr S q xs l) (k : Below wr.heap.size wr w1) : Tn w w1 S q xs l :=
  ⟨h.1.below k, h.2.1.below k, h.2.2.1, h.2.2.2.1, belowCont h.2.2.2.2 k⟩
theorem Tn.state {w wr : World} {S q : Nat} {xs : List Nat} {l : List UInt8} (h : Tn w wr S q xs l) (n : Nat) : Tn w (wr.setCell ⟨S, 12, none⟩ (.int .u32 (n : Int))) S q (xs.set 12 n) l :=
  ⟨h.1.put 12 n, h.2.1.keep ((Keeps.refl [S] wr).setCell (p := ⟨S, 12, none⟩) (Or.inl (by simp)) _) (by have := h.2.2.1; simp; omega), h.2.2.1, h.2.2.2.1, h.2.2.2.2.setCell (p := ⟨S, 12, none⟩) h.2.2.2.1 _⟩

set_option maxRecDepth 100000 in
set_option maxHeartbeats 4000000 in
theorem turn_any (key nonce : ByteArray) (l : List UInt8) (hk : key.size = 32) (hn : nonce.size = 12) (hl : l.length ≤ 1000000000) (w : World) :
    Calls Tryz.prog 88 #[.string key, .string nonce, .string (str l)] w fun e w' => e = .returned (.string (str (turnedL key nonce l l.length))) ∧ Below w.heap.size w w' := by
  have hmay : ∀ w', Calls Tryz.prog 87 #[.string key, .string nonce] w' fun e w2 => e = .returned (.bool true) ∧ Below w'.heap.size w' w2 := fun w' => by
    have := may_any key nonce w'
    simpa [hk, hn] using this
  have hbeg := fun w' => begun_any key nonce hk hn w'
  have hlen := (begun_good key nonce).1
  obtain ⟨xs, hxs⟩ : ∃ xs, xs = begunL key nonce := ⟨_, rfl⟩
  rw [← hxs] at hbeg hlen
  clear hk hn
  replace hbeg := Lib.hid hbeg
  replace hmay := Lib.hid hmay
  replace hlen := Lib.hid hlen
  replace hxs := Lib.hid hxs
  replace hl := Lib.hid hl
  go_enter Tryz.func88, Tryz.ntmps88
  go_wp2_with (first
    | (go_at_call 87; (with_reducible refine (hmay.out _).mono ?_); rintro e w1 ⟨rfl, b1⟩; replace b1 := Lib.hid b1)
    | (go_at_call 110; (with_reducible refine (hbeg.out _).mono ?_); rintro e w2 ⟨rfl, b2⟩; replace b2 := Lib.hid (belowCont b1.out b2))
    | (refine wpList_store_words rfl (.tmp 7) (.tmp 19) rfl _ xs rfl rfl hlen.out ⟨_, heap_alloc_new _ _, rfl⟩ ?_; intro w3 W3 K3; replace K3 := Lib.hid (belowNew b2.out K3); replace W3 := Lib.hid W3)
    | (refine wpList_conv_bytes rfl (.tmp 20) rfl l rfl ?_; intro w4 cap B4 b4 hcap; replace b4 := Lib.hid b4; replace B4 := Lib.hid B4; replace hcap := Lib.hid hcap))
  have hT : Tn w w4 w2.heap.size w3.heap.size xs l := ⟨W3.out.below b4.out, B4.out, block_lt W3.out, b2.out.size, belowCont K3.out b4.out⟩
  obtain ⟨S, hS⟩ : ∃ S, S = w2.heap.size := ⟨_, rfl⟩
  obtain ⟨q, hq⟩ : ∃ q, q = w3.heap.size := ⟨_, rfl⟩
  rw [← hS, ← hq] at hT ⊢
  clear W3 B4 K3 b4 b2 b1 hS hq
  have hT0 : Tn w w4 S q (stAt key nonce 0) (turnedL key nonce l (64 * 0)) := by rw [stAt_zero, ← hxs.out, turnedL_zero]; exact hT
  clear hT
  replace hT0 := Lib.hid hT0
  obtain ⟨m, hm⟩ : ∃ m : Nat, m = (l.length + 63) / 64 := ⟨_, rfl⟩
  replace hm := Lib.hid hm
  go_loopg [9] m (fun gn s9 wr => ∃ i : Nat, s9 = .int .i64 (64 * (i : Int)) ∧ i + gn = m ∧ Tn w wr S q (stAt key nonce i) (turnedL key nonce l (64 * i)))
  case atStart => exact ⟨0, rfl, by omega, hT0.out⟩
  case round =>
    obtain ⟨i, rfl, hi, hT⟩ := hrel
    have hlo := hl.out
    have hmo := hm.out
    by_cases h0 : gk = 0
    · obtain rfl : i = m := by omega
      have hge : ¬ (64 * (i : Int) < (l.length : Int)) := by omega
      have hconv : (convert 70 9 (.slice (some ⟨q, 0, none⟩) l.length cap)).run Tryz.prog wr = .ok (.string (str (turnedL key nonce l l.length))) wr := by
        have := hT.2.1.text cap
        rwa [turnedL_len, turnedL_full key nonce l (64 * i) (by omega)] at this
      replace hT := Lib.hid hT
      clear hlo hmo h0 hi
      go_wp2
      go_ret
      exact ⟨rfl, hT.out.2.2.2.2⟩
    · obtain ⟨K, rfl⟩ : ∃ K : Nat, gk = K + 1 := ⟨gk - 1, by omega⟩
      have hi2 := Lib.hid hi
      have hlt : 64 * (i : Int) < (l.length : Int) := by omega
      have hi0 : (0 : Int) ≤ 64 * (i : Int) := by omega
      have hw64 : IntKind.i64.wrap (64 * (i : Int) + 64) = 64 * (i : Int) + 64 := by rw [IntKind.wrap_i64]; omega
      have hwu : ((i : Int) + 1) % 4294967296 = (i : Int) + 1 := by omega
      have hst := fun w' => stirred_any (stAt key nonce i) (stAt_good key nonce i (by omega)) w'
      obtain ⟨ys, hys⟩ : ∃ ys, ys = stAt key nonce i := ⟨_, rfl⟩
      obtain ⟨us, hus⟩ : ∃ us, us = turnedL key nonce l (64 * i) := ⟨_, rfl⟩
      have hyl : ys.length = 16 := by rw [hys]; exact (stAt_good key nonce i (by omega)).1
      have hy12 : ys.getD 12 0 = i := by rw [hys]; exact stAt_12 key nonce i
      rw [← hys] at hst hT
      rw [← hus] at hT
      obtain ⟨bs, hbs⟩ : ∃ bs, bs = blockL ys := ⟨_, rfl⟩
      have hbl : bs.length = 64 := by rw [hbs]; exact blockL_len ys
      rw [← hbs] at hst
      replace hst := Lib.hid hst
      replace hT := Lib.hid hT
      replace hys := Lib.hid hys
      replace hus := Lib.hid hus
      replace hbs := Lib.hid hbs
      replace hyl := Lib.hid hyl
      replace hbl := Lib.hid hbl
      replace hy12 := Lib.hid hy12
      clear hlo hmo h0 hi
      have hcap1 : (l.length : Int) ≤ (cap : Int) := by have := hcap.out; omega
      have hcap2 : 64 * i ≤ cap := by omega
      obtain ⟨c, hc⟩ : ∃ c : Nat, c = min 64 (l.length - 64 * i) := ⟨_, rfl⟩
      replace hc := Lib.hid hc
      go_upto_region 9 with (first
        | (refine wpList_load_words rfl (.tmp 7) rfl S ys rfl hT.out.1 hyl.out ?_)
        | (go_at_call 111; (with_reducible refine (hst.out _).mono ?_); rintro e w5 ⟨rfl, b5⟩; replace hT := Lib.hid (hT.out.below b5); replace b5 := Lib.hid b5)
        | (refine wpList_store_bytes8 rfl (.tmp 10) (.tmp 29) rfl w5.heap.size bs rfl rfl hbl.out ⟨_, heap_alloc_new _ _, rfl⟩ ?_; intro w6 W6 K6; have hqB := hT.out.2.1.1; replace hT := Lib.hid (hT.out.next (((Keeps.refl _ w5).alloc _).trans K6) hT.out.2.1.1); replace W6 := Lib.hid W6; clear K6))
      obtain ⟨B, hB⟩ : ∃ B, B = w5.heap.size := ⟨_, rfl⟩
      rw [← hB] at W6 hqB ⊢
      clear hB b5
      replace hqB := Lib.hid hqB
      have c6 := hT.out.1.cell (i := 12) (by rw [hyl.out]; decide)
      rw [hy12.out] at c6
      have f6 := hT.out.1.free 12
      have hU := hT.out.state (i + 1)
      rw [show ((i + 1 : Nat) : Int) = (i : Int) + 1 by omega] at hU
      have hV := W6.out.keep ((Keeps.refl [S] w6).setCell (p := ⟨S, 12, none⟩) (Or.inl (by simp)) (.int .u32 ((i : Int) + 1))) (by have := hT.out.2.2.1; have := hqB.out; simp; omega)
      replace hU := Lib.hid hU
      replace hV := Lib.hid hV
      go_upto_region 10 with fail
      clear c6 f6
      obtain ⟨w7, hw7⟩ : ∃ w7, w7 = w6.setCell ⟨S, 12, none⟩ (.int .u32 ((i : Int) + 1)) := ⟨_, rfl⟩
      rw [← hw7] at hU hV ⊢
      clear hw7 hT W6
      go_cut [11] from 22 to 56 (fun v wx => v = .slice (some ⟨q, 64 * i, none⟩) c (cap - 64 * i) ∧ wx = w7)
      case first =>
        have z1 : (0 : Int) ≤ 64 * (i : Int) + 64 := by omega
        by_cases hcc : 64 * (i : Int) + 64 ≤ (l.length : Int)
        · have z2 : 64 * (i : Int) + 64 ≤ (cap : Int) := by omega
          have z3 : ¬ (cap = 64 * i) := by omega
          go_wp2
          try go_meet
          exact ⟨by rw [hc.out, Nat.min_eq_left (by omega), Nat.add_sub_cancel_left], rfl⟩
        · have z3 : ¬ (cap = 64 * i) := by omega
          go_wp2
          try go_meet
          exact ⟨by rw [hc.out, Nat.min_eq_right (by omega)], rfl⟩
      case rest =>
      obtain ⟨rfl, rfl⟩ := hcut
      have hc0 := hc.out
      have hil : 64 * i + c ≤ l.length := by omega
      have hc64 : c ≤ 64 := by omega
      replace hc0 := Lib.hid hc0
      clear hlt hi0 hw64 hwu hcap1 hcap2 hst
      replace hil := Lib.hid hil
      replace hc64 := Lib.hid hc64
      go_upto_region 12 with fail
      have hU0 : Tn w wc S q (ys.set 12 (i + 1)) (turnedL key nonce l (64 * i + 0)) := by
        show Tn w wc S q (ys.set 12 (i + 1)) (turnedL key nonce l (64 * i))
        have e := hus.out
        subst e
        exact hU.out
      replace hU0 := Lib.hid hU0
      go_loopg [44] c (fun gn s44 wr => ∃ j : Nat, s44 = .int .i64 (j : Int) ∧ j + gn = c ∧ Tn w wr S q (ys.set 12 (i + 1)) (turnedL key nonce l (64 * i + j)) ∧ Bytes8 wr B bs)
      case atStart => exact ⟨0, rfl, by omega, hU0.out, hV.out⟩
      case round =>
        clear hU0 hU hV
        obtain ⟨j, rfl, hj, hU, hV⟩ := hrel
        have hil2 := hil.out
        have hc642 := hc64.out
        by_cases h0 : gk = 0
        · obtain rfl : j = c := by omega
          have hnot : ¬ ((j : Int) < (j : Int)) := by omega
          replace hU := Lib.hid hU
          replace hV := Lib.hid hV
          clear hil2 hc642 h0 hj
          have hw64 : IntKind.i64.wrap (64 * (i : Int) + 64) = 64 * (i : Int) + 64 := by have := hl.out; have := hil.out; rw [IntKind.wrap_i64]; omega
          go_wp2
          go_roundg K
          case measure => omega
          case rel =>
            have h1 := hil.out
            have h2 := hc0.out
            have h3 := hc64.out
            refine ⟨i + 1, by rw [show 64 * (i : Int) + 64 = 64 * ((i + 1 : Nat) : Int) by omega], by have := hi2.out; omega, ?_⟩
            have e : turnedL key nonce l (64 * i + j) = turnedL key nonce l (64 * (i + 1)) := by
              by_cases hj : j = 64
              · rw [hj]; congr 1
              · rw [turnedL_full key nonce l (64 * i + j) (by omega), turnedL_full key nonce l (64 * (i + 1)) (by omega)]
            rw [← e, ← stAt_set key nonce i (i + 1), ← hys.out]
            exact hU.out
        · obtain ⟨K2, rfl⟩ : ∃ K2 : Nat, gk = K2 + 1 := ⟨gk - 1, by omega⟩
          have j1 : (j : Int) < (c : Int) := by omega
          have j0 : (0 : Int) ≤ (j : Int) := by omega
          have j64 : (j : Int) < 64 := by omega
          have hjl : 64 * i + j < l.length := by omega
          have hcell := (hU.2.1.2 (64 * i + j) (by rw [turnedL_len]; exact hjl)).1
          have hfree := (hU.2.1.2 (64 * i + j) (by rw [turnedL_len]; exact hjl)).2
          rw [turnedL_at _ _ _ _ hjl] at hcell
          have hcb := hV.cell (i := j) (by rw [hbl.out]; omega)
          have hpad : bs.getD j 0 = (padAt key nonce (64 * i + j)).toNat := by
            rw [hbs.out, ← blockU_at ys j (by omega), padAt, hys.out]
            have e1 : (64 * i + j) / 64 % 4294967296 = i := by have := hl.out; omega
            have e2 : (64 * i + j) % 64 = j := by omega
            rw [e1, e2]
          rw [hpad] at hcb
          have hput := hU.2.1.put (i := 64 * i + j) (by rw [turnedL_len]; exact hjl) (n := ((l.getD (64 * i + j) 0 ^^^ padAt key nonce (64 * i + j)).toNat : Int)) ⟨by omega, by have := UInt8.toNat_lt (l.getD (64 * i + j) 0 ^^^ padAt key nonce (64 * i + j)); omega⟩
          have hxor := xor_u8 (l.getD (64 * i + j) 0) (padAt key nonce (64 * i + j))
          rw [Int.toNat_natCast, UInt8.ofNat_toNat, turnedL_step key nonce l (64 * i + j) hjl] at hput
          obtain ⟨x1, hx1⟩ : ∃ x, x = l.getD (64 * i + j) 0 := ⟨_, rfl⟩
          obtain ⟨x2, hx2⟩ : ∃ x, x = padAt key nonce (64 * i + j) := ⟨_, rfl⟩
          rw [← hx1] at hcell hxor hput
          rw [← hx2] at hcb hxor hput
          obtain ⟨n1, hn1⟩ : ∃ n : Nat, n = x1.toNat := ⟨_, rfl⟩
          obtain ⟨n2, hn2⟩ : ∃ n : Nat, n = x2.toNat := ⟨_, rfl⟩
          obtain ⟨n3, hn3⟩ : ∃ n : Nat, n = (x1 ^^^ x2).toNat := ⟨_, rfl⟩
          rw [← hn1] at hcell hxor
          rw [← hn2] at hcb hxor
          rw [← hn3] at hxor hput
          clear hx1 hx2 hn1 hn2 hn3 hpad
          replace hput := Lib.hid hput
          replace hU := Lib.hid hU
          replace hV := Lib.hid hV
          have hj2 : j + (K2 + 1) = c := hj
          replace hj2 := Lib.hid hj2
          clear hil2 hc642 h0 hj hjl
          go_upto_region 14 with fail
          go_region
          all_goals go_wp2_with fail
          go_roundg K2
          case measure => omega
          case rel =>
            refine ⟨j + 1, by go_num, by have := hj2.out; omega, ⟨hU.out.1.drew.keep (Keeps.refl [q] _ |>.setCell (p := ⟨q, 64 * i + j, none⟩) (Or.inl (by simp)) _) (by have := hU.out.2.2.1; simp; omega), hput.out, hU.out.2.2.1, hU.out.2.2.2.1, ?_⟩, ?_⟩
            · exact (hU.out.2.2.2.2.setCell (p := ⟨q, 64 * i + j, none⟩) (by have := hU.out.2.2.1; have := hU.out.2.2.2.1; show w.heap.size ≤ q; omega) _).drew
            · exact hV.out.keep ((Keeps.refl [q] wr).setCell (p := ⟨q, 64 * i + j, none⟩) (Or.inl (by simp)) (.int .u8 (n3 : Int))).drew (by have := hqB.out; simp; omega)
end Go.Proofs.YtcdcipfojfnblaaGreatDoor.chacha
end
section
namespace Go.Proofs.YtcdcipfojfnblaaGreatDoor.chacha
open Go.RowKit
attribute [local go_sem ↓] Go.wp_at_zero Go.wp_at_succ
set_option linter.unusedVariables false
set_option maxRecDepth 100000

set_option maxRecDepth 100000 in
theorem known8 : (blockL (stAt ⟨#[0, 1, 2, 3, 4, 5, 6, 7, 8, 9, 10, 11, 12, 13, 14, 15, 16, 17, 18, 19, 20, 21, 22, 23, 24, 25, 26, 27, 28, 29, 30, 31]⟩ ⟨#[0, 0, 0, 9, 0, 0, 0, 74, 0, 0, 0, 0]⟩ 1)).take 8 = [16, 241, 231, 228, 209, 59, 89, 21] := by decide +kernel
theorem may_not (k n : ByteArray) (h : ¬ (k.size = 32 ∧ n.size = 12)) (w : World) : Calls Tryz.prog 87 #[.string k, .string n] w fun e w' => e = .returned (.bool false) ∧ Below w.heap.size w w' := by
  have := may_any k n w
  have e : (decide (k.size = 32) && decide (n.size = 12)) = false := by
    rw [← Bool.decide_and]; exact decide_eq_false h
  rwa [e] at this
theorem turn_none (k n s : ByteArray) (h : ¬ (k.size = 32 ∧ n.size = 12)) (w : World) : Calls Tryz.prog 88 #[.string k, .string n, .string s] w fun e w' => e = .returned (.string ⟨#[]⟩) ∧ Below w.heap.size w w' := by
  have hm := fun w' => may_not k n h w'
  clear h
  replace hm := Lib.hid hm
  go_enter Tryz.func88, Tryz.ntmps88
  go_wp2_with (go_at_call 87; (with_reducible refine (hm.out _).mono ?_); rintro e w1 ⟨rfl, b1⟩; replace b1 := Lib.hid b1)
  go_ret
  exact ⟨rfl, b1.out⟩
end Go.Proofs.YtcdcipfojfnblaaGreatDoor.chacha
end
