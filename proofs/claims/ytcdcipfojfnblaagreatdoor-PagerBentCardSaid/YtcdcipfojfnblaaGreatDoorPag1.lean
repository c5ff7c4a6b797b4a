/- The pager (package pager): its heads, and what it lays. The table of salts is a premise. -/
import Derived.Test.YtcdcipfojfnblaaGreatDoorMach
import Derived.Test.YtcdcipfojfnblaaGreatDoorBlock7
import Derived.Test.YtcdcipfojfnblaaGreatDoorMpr
import Derived.BigRegion
namespace Go.Proofs.YtcdcipfojfnblaaGreatDoor.pager
open Go.RowKit mach mpr
attribute [local go_sem ↓] Go.wp_at_zero Go.wp_at_succ
set_option linter.unusedVariables false
set_option linter.unusedSimpArgs false
set_option maxRecDepth 100000

/-- a pager: its parts, its epoch, number and index, the pages that it keeps, how many at most, how many were fetched and read again, the new places, those that go -/
structure PSt where
  g : Nat
  d : Nat
  b : Nat
  s : Nat
  ep : Nat
  ct : Nat
  ix : Nat
  km : Nat
  eld : Value
  most : Int
  fet : Int
  aga : Int
  fm : Nat
  dro : Value
def PSt.cells (x : PSt) : Array Value := #[.pointer (some ⟨x.g, 0, none⟩), .pointer (some ⟨x.d, 0, none⟩), .pointer (some ⟨x.b, 0, none⟩), .pointer (some ⟨x.s, 0, none⟩), .int .u32 (x.ep : Int), .int .u64 (x.ct : Int), .int .u32 (x.ix : Int), .map (some x.km), x.eld, .int .i64 x.most, .int .i64 x.fet, .int .i64 x.aga, .map (some x.fm), x.dro]
def pg (p : Nat) (x : PSt) : Rs := .box p x.cells 89
/-- the index of the next head -/
def nx (c : Nat) (x : PSt) : Nat := if c = x.ct then x.ix + 1 else 1
def PSt.headed (x : PSt) (c : Nat) : PSt := { x with ct := c, ix := nx c x }
theorem headCells {x : PSt} {c : Nat} : ((x.cells.setIfInBounds 5 (.int .u64 (c : Int))).setIfInBounds 6 (.int .u32 (1 : Int))) = ({ x with ct := c, ix := 1 } : PSt).cells := rfl
theorem cells_ix {x : PSt} {n : Nat} {z : Int} (hz : z = (n : Int)) : x.cells.setIfInBounds 6 (.int .u32 z) = ({ x with ix := n } : PSt).cells := by subst hz; rfl
theorem headInfo : (Tryz.prog.info? 59).map (·.size) = some 3 := by kernel_rfl
section
variable {w W : World} {X : List Nat} {rs : List Rs}
theorem put_at {p : Nat} {x : PSt} {r1 r2 : Rs} (h : Hp w X (r1 :: pg p x :: rs) W) (j : Nat) (v : Value) : Hp w X (r1 :: .box p (x.cells.setIfInBounds j v) 89 :: rs) (W.setCell ⟨p, j, none⟩ v) := h.put (i := 1) rfl j v
set_option maxHeartbeats 4000000 in
theorem head_any {p d g c : Nat} {key reg : ByteArray} {x : PSt} (h : Hp w X (pg p x :: dev d key reg c g :: rs) W) (hd : x.d = d) (hix : x.ix < 1000000) :
    Calls Tryz.prog 43 #[.pointer (some ⟨p, 0, none⟩)] W fun e w' => e = .returned (.agg #[.int .u32 (x.ep : Int), .int .u64 (c : Int), .int .u32 (nx c x : Int)]) ∧ Hp w X (pg p (x.headed c) :: dev d key reg c g :: rs) w' := by
  obtain ⟨R, hR⟩ : ∃ R, R = nx c x := ⟨_, rfl⟩
  have hRx : x.headed c = { x with ct := c, ix := R } := by rw [hR]; rfl
  rw [hRx, ← hR]
  clear hRx
  obtain ⟨xg, xd, xb, xs, xe, xc, xi, km, eld, most, fet, aga, fm, dro⟩ := x
  simp only [nx] at *
  subst hd
  have hp0 := h.alloc #[.int .u32 0, .int .u64 0, .int .u32 0] 59
  have kC : ∀ W', Hp w X (.box W.heap.size #[.int .u32 0, .int .u64 0, .int .u32 0] 59 :: pg p ⟨xg, xd, xb, xs, xe, xc, xi, km, eld, most, fet, aga, fm, dro⟩ :: dev xd key reg c g :: rs) W' → Calls Tryz.prog 23 #[.pointer (some ⟨xd, 0, none⟩)] W' fun e w' => e = .returned (.int .u64 (c : Int)) ∧ Hp w X (.box W.heap.size #[.int .u32 0, .int .u64 0, .int .u32 0] 59 :: pg p ⟨xg, xd, xb, xs, xe, xc, xi, km, eld, most, fet, aga, fm, dro⟩ :: dev xd key reg c g :: rs) w' := fun W' h' => counter_hp h' (i := 2) rfl
  have c1 : (W.alloc (.cells #[.int .u32 0, .int .u64 0, .int .u32 0] 59)).cell? ⟨p, 1, none⟩ = some (.pointer (some ⟨xd, 0, none⟩)) := hp0.cell (i := 1) rfl 1
  replace hp0 := Lib.hid hp0; replace kC := Lib.hid kC; replace hR := Lib.hid hR
  clear h
  go_enter Tryz.func43, Tryz.ntmps43
  go_upto_region 2 with (go_at_call 23; (with_reducible refine (kC.out _ hp0.out).mono ?_); rintro e w1 ⟨rfl, h1⟩; have hp := Lib.hid h1; clear h1)
  clear hp0 kC c1
  generalize hq : W.heap.size = q at hp ⊢
  clear hq
  have c4 : w1.cell? ⟨p, 4, none⟩ = some (.int .u32 (xe : Int)) := hp.out.cell (i := 1) rfl 4
  have c5 : w1.cell? ⟨p, 5, none⟩ = some (.int .u64 (xc : Int)) := hp.out.cell (i := 1) rfl 5
  have c6 : w1.cell? ⟨p, 6, none⟩ = some (.int .u32 (xi : Int)) := hp.out.cell (i := 1) rfl 6
  have f5 := hp.out.free (i := 1) rfl 5
  have f6 := hp.out.free (i := 1) rfl 6
  by_cases hc : c = xc
  · have hR1 : R = xi + 1 := by rw [hR.out, if_pos hc]
    clear hR
    subst hc
    go_upto_region 4 with fail
    have hpy := Lib.hid hp.out
    clear hp c5 c6 c4 f5 f6
    have c6 : w1.cell? ⟨p, 6, none⟩ = some (.int .u32 ((xi : Nat) : Int)) := hpy.out.cell (i := 1) rfl 6
    have f6 := hpy.out.free (i := 1) rfl 6
    go_upto_region 5 with fail
    have hpz := Lib.hid (show Hp w X (.box q #[.int .u32 0, .int .u64 0, .int .u32 0] 59 :: pg p ⟨xg, xd, xb, xs, xe, c, R, km, eld, most, fet, aga, fm, dro⟩ :: dev xd key reg c g :: rs) (w1.setCell ⟨p, 6, none⟩ (.int .u32 ((xi : Int) + 1))) from by
      have h6 := hpy.out.put (i := 1) rfl 6 (.int .u32 ((xi : Int) + 1))
      have e : (((xi : Int) + 1) : Int) = (R : Int) := by omega
      rw [e] at h6 ⊢
      exact h6)
    clear hpy c6 f6 hR1
    generalize World.setCell _ _ _ = W9 at hpz ⊢
    have b0 : W9.cell? ⟨q, 0, none⟩ = some (.int .u32 0) := hpz.out.cell (i := 0) rfl 0
    have b1 : W9.cell? ⟨q, 1, none⟩ = some (.int .u64 0) := hpz.out.cell (i := 0) rfl 1
    have b2 : W9.cell? ⟨q, 2, none⟩ = some (.int .u32 0) := hpz.out.cell (i := 0) rfl 2
    have f0 := hpz.out.free (i := 0) rfl 0
    have f1 := hpz.out.free (i := 0) rfl 1
    have f2 := hpz.out.free (i := 0) rfl 2
    have d4 : W9.cell? ⟨p, 4, none⟩ = some (.int .u32 (xe : Int)) := hpz.out.cell (i := 1) rfl 4
    have d5 : W9.cell? ⟨p, 5, none⟩ = some (.int .u64 (c : Int)) := hpz.out.cell (i := 1) rfl 5
    have d6 : W9.cell? ⟨p, 6, none⟩ = some (.int .u32 (R : Int)) := hpz.out.cell (i := 1) rfl 6
    go_region
    clear b0 b1 b2 f0 f1 f2 d4 d5 d6
    go_wp2
    have fin := (((hpz.out.put (i := 0) rfl 0 (.int .u32 (xe : Int))).put (i := 0) rfl 1 (.int .u64 (c : Int))).put (i := 0) rfl 2 (.int .u32 (R : Int))).drew
    exact bodyPost_ret (v := .agg #[.int .u32 (xe : Int), .int .u64 (c : Int), .int .u32 (R : Int)]) (results_cell_row rfl _ _ q 59 #[.int .u32 (xe : Int), .int .u64 (c : Int), .int .u32 (R : Int)] (0, 0) _ rfl (fin.box (i := 0) rfl) Tryz.underlying59 rfl headInfo) rfl ⟨rfl, fin.drop 0⟩
  · have hR1 : R = 0 + 1 := by rw [hR.out, if_neg hc]
    have hc1 : ¬ ((c : Int) = (xc : Int)) := by omega
    clear hR
    go_upto_region 4 with fail
    have hpy := Lib.hid (show Hp w X (.box q #[.int .u32 0, .int .u64 0, .int .u32 0] 59 :: pg p ⟨xg, xd, xb, xs, xe, c, 0, km, eld, most, fet, aga, fm, dro⟩ :: dev xd key reg c g :: rs) _ from (hp.out.put (i := 1) rfl 5 (.int .u64 (c : Int))).put (i := 1) rfl 6 (.int .u32 0))
    clear hp c5 c6 c4 f5 f6 hc hc1
    generalize World.setCell _ _ _ = w1 at hpy ⊢
    have c6 : w1.cell? ⟨p, 6, none⟩ = some (.int .u32 ((0 : Nat) : Int)) := hpy.out.cell (i := 1) rfl 6
    have f6 := hpy.out.free (i := 1) rfl 6
    go_upto_region 5 with fail
    have hpz := Lib.hid (show Hp w X (.box q #[.int .u32 0, .int .u64 0, .int .u32 0] 59 :: pg p ⟨xg, xd, xb, xs, xe, c, R, km, eld, most, fet, aga, fm, dro⟩ :: dev xd key reg c g :: rs) (w1.setCell ⟨p, 6, none⟩ (.int .u32 1)) from by
      have h6 := hpy.out.put (i := 1) rfl 6 (.int .u32 1)
      have e : (1 : Int) = (R : Int) := by omega
      rw [e] at h6 ⊢
      exact h6)
    clear hpy c6 f6 hR1
    generalize World.setCell _ _ _ = W9 at hpz ⊢
    have b0 : W9.cell? ⟨q, 0, none⟩ = some (.int .u32 0) := hpz.out.cell (i := 0) rfl 0
    have b1 : W9.cell? ⟨q, 1, none⟩ = some (.int .u64 0) := hpz.out.cell (i := 0) rfl 1
    have b2 : W9.cell? ⟨q, 2, none⟩ = some (.int .u32 0) := hpz.out.cell (i := 0) rfl 2
    have f0 := hpz.out.free (i := 0) rfl 0
    have f1 := hpz.out.free (i := 0) rfl 1
    have f2 := hpz.out.free (i := 0) rfl 2
    have d4 : W9.cell? ⟨p, 4, none⟩ = some (.int .u32 (xe : Int)) := hpz.out.cell (i := 1) rfl 4
    have d5 : W9.cell? ⟨p, 5, none⟩ = some (.int .u64 (c : Int)) := hpz.out.cell (i := 1) rfl 5
    have d6 : W9.cell? ⟨p, 6, none⟩ = some (.int .u32 (R : Int)) := hpz.out.cell (i := 1) rfl 6
    go_region
    clear b0 b1 b2 f0 f1 f2 d4 d5 d6
    go_wp2
    have fin := (((hpz.out.put (i := 0) rfl 0 (.int .u32 (xe : Int))).put (i := 0) rfl 1 (.int .u64 (c : Int))).put (i := 0) rfl 2 (.int .u32 (R : Int))).drew
    exact bodyPost_ret (v := .agg #[.int .u32 (xe : Int), .int .u64 (c : Int), .int .u32 (R : Int)]) (results_cell_row rfl _ _ q 59 #[.int .u32 (xe : Int), .int .u64 (c : Int), .int .u32 (R : Int)] (0, 0) _ rfl (fin.box (i := 0) rfl) Tryz.underlying59 rfl headInfo) rfl ⟨rfl, fin.drop 0⟩
set_option maxHeartbeats 4000000 in
theorem lay_any {p d g b c : Nat} {key : List UInt8} {reg : ByteArray} {x : PSt} {ds : disk.DSt} {bs : sha.BSt} (h : Hp w X (pg p x :: dev d (str key) reg c g :: dsk g ds :: bk b bs :: rs) W) (hT : SaltIn w X) (hxg : x.g = g) (hxd : x.d = d) (hxb : x.b = b) (hix : x.ix < 1000000) (hep : x.ep < 4294967296) (hc : c < 1000000) (hkey : key.length ≤ 1000000)
    (hd : ds.dead = false) (ha : ds.acts < 1000000) (n : Nat) (hn : n < ds.sure.length) (hl : ds.sure.length ≤ 4096) (hr : ds.row.length < 100000) (hbc : bs.c ≤ 8192) (s : List UInt8) (hs : s.length ≤ 462) :
    Calls Tryz.prog 20 #[.pointer (some ⟨p, 0, none⟩), .int .i64 (n : Int), .string (str s)] W fun e w' => e = .returned (.tuple #[.string (str (sha.shaB sha.salts (sha.blockB key x.ep c (nx c x) n s))), .string (str (sha.blockB key x.ep c (nx c x) n s)), .int .i64 0]) ∧
      Hp w X (pg p (x.headed c) :: dev d (str key) reg c g :: dsk g (ds.wr n (sha.blockB key x.ep c (nx c x) n s)) :: bk b (sha.noteS bs (sha.shaB sha.salts (sha.blockB key x.ep c (nx c x) n s)) (sha.blockB key x.ep c (nx c x) n s)) :: rs) w' := by
  obtain ⟨R, hR⟩ : ∃ R, R = nx c x := ⟨_, rfl⟩
  have hR9 : R ≤ 1000000 := by rw [hR]; unfold nx; split <;> omega
  have hRx : x.headed c = { x with ct := c, ix := R } := by rw [hR]; rfl
  rw [hRx, ← hR]
  clear hRx
  obtain ⟨xg, xd, xb, xs, xe, xc, xi, km, eld, most, fet, aga, fm, dro⟩ := x
  simp only at *
  subst hxg; subst hxd; subst hxb
  obtain ⟨B, hB⟩ : ∃ B, B = sha.blockB key xe c R n s := ⟨_, rfl⟩
  have hBl : B.length = 512 := by rw [hB]; exact sha.blockB_len key xe c R n s hs
  have kK : ∀ W', Hp w X (pg p ⟨xg, xd, xb, xs, xe, xc, xi, km, eld, most, fet, aga, fm, dro⟩ :: dev xd (str key) reg c xg :: dsk xg ds :: bk xb bs :: rs) W' → Calls Tryz.prog 42 #[.pointer (some ⟨xd, 0, none⟩)] W' fun e w' => e = .returned (.string (str key)) ∧ Hp w X (pg p ⟨xg, xd, xb, xs, xe, xc, xi, km, eld, most, fet, aga, fm, dro⟩ :: dev xd (str key) reg c xg :: dsk xg ds :: bk xb bs :: rs) w' := fun W' h' => key_hp h' (i := 1) rfl
  have kH : ∀ W', Hp w X (pg p ⟨xg, xd, xb, xs, xe, xc, xi, km, eld, most, fet, aga, fm, dro⟩ :: dev xd (str key) reg c xg :: dsk xg ds :: bk xb bs :: rs) W' → Calls Tryz.prog 43 #[.pointer (some ⟨p, 0, none⟩)] W' fun e w' => e = .returned (.agg #[.int .u32 (xe : Int), .int .u64 (c : Int), .int .u32 (R : Int)]) ∧ Hp w X (pg p ⟨xg, xd, xb, xs, xe, c, R, km, eld, most, fet, aga, fm, dro⟩ :: dev xd (str key) reg c xg :: dsk xg ds :: bk xb bs :: rs) w' := fun W' h' => by
    have := head_any h' rfl hix
    rw [← hR] at this
    have e : PSt.headed ⟨xg, xd, xb, xs, xe, xc, xi, km, eld, most, fet, aga, fm, dro⟩ c = ⟨xg, xd, xb, xs, xe, c, R, km, eld, most, fet, aga, fm, dro⟩ := by rw [hR]; rfl
    rw [e] at this
    exact this
  have kP : ∀ W', Hp w X (pg p ⟨xg, xd, xb, xs, xe, c, R, km, eld, most, fet, aga, fm, dro⟩ :: dev xd (str key) reg c xg :: dsk xg ds :: bk xb bs :: rs) W' → Calls Tryz.prog 41 #[.string (str key), .agg #[.int .u32 (xe : Int), .int .u64 (c : Int), .int .u32 (R : Int)], .int .i64 (n : Int), .string (str s)] W' fun e w' => e = .returned (.string (str B)) ∧ Hp w X (pg p ⟨xg, xd, xb, xs, xe, c, R, km, eld, most, fet, aga, fm, dro⟩ :: dev xd (str key) reg c xg :: dsk xg ds :: bk xb bs :: rs) w' := fun W' h' => by
    have := sha.bput_any key s xe c R n (n : Int) (IntWalk.u32_in _ (by omega)) (by omega) hep (by omega) (by omega) hkey hs W' (hT.at h')
    rw [← hB] at this
    exact this.mono fun e w' ⟨he, hb⟩ => ⟨he, h'.below hb⟩
  have kW : ∀ W', Hp w X (pg p ⟨xg, xd, xb, xs, xe, c, R, km, eld, most, fet, aga, fm, dro⟩ :: dev xd (str key) reg c xg :: dsk xg ds :: bk xb bs :: rs) W' → Calls Tryz.prog 44 #[.pointer (some ⟨xg, 0, none⟩), .int .i64 (n : Int), .string (str B)] W' fun e w' => e = .returned (.int .i64 0) ∧ Hp w X (pg p ⟨xg, xd, xb, xs, xe, c, R, km, eld, most, fet, aga, fm, dro⟩ :: dev xd (str key) reg c xg :: dsk xg (ds.wr n B) :: bk xb bs :: rs) w' := fun W' h' => write_hp h' (i := 2) rfl hd ha n B hn (by omega) hBl hr
  have kS : ∀ W', Hp w X (pg p ⟨xg, xd, xb, xs, xe, c, R, km, eld, most, fet, aga, fm, dro⟩ :: dev xd (str key) reg c xg :: dsk xg (ds.wr n B) :: bk xb bs :: rs) W' → Calls Tryz.prog 45 #[.pointer (some ⟨xb, 0, none⟩), .string (str B)] W' fun e w' => e = .returned (.string (str (sha.shaB sha.salts B))) ∧ Hp w X (pg p ⟨xg, xd, xb, xs, xe, c, R, km, eld, most, fet, aga, fm, dro⟩ :: dev xd (str key) reg c xg :: dsk xg (ds.wr n B) :: bk xb (sha.noteS bs (sha.shaB sha.salts B) B) :: rs) w' := fun W' h' => bsum_hp h' (i := 3) rfl B (by omega) hbc (hT.at h')
  have hs1 : ¬ (462 : Int) < ((str s).size : Int) := by rw [str_size]; omega
  rw [← hB]
  obtain ⟨S, hS⟩ : ∃ S, S = sha.shaB sha.salts B := ⟨_, rfl⟩
  rw [← hS] at kS ⊢
  obtain ⟨bs2, hbs2⟩ : ∃ x, x = sha.noteS bs S B := ⟨_, rfl⟩
  rw [← hbs2] at kS ⊢
  obtain ⟨ds2, hds2⟩ : ∃ x, x = ds.wr n B := ⟨_, rfl⟩
  rw [← hds2] at kW kS ⊢
  have c1 : W.cell? ⟨p, 1, none⟩ = some (.pointer (some ⟨xd, 0, none⟩)) := h.cell (i := 0) rfl 1
  replace h := Lib.hid h; replace kK := Lib.hid kK; replace kH := Lib.hid kH; replace kP := Lib.hid kP; replace kW := Lib.hid kW; replace kS := Lib.hid kS
  clear hT hR hR9 hB hBl hS hbs2 hds2 hix hep hc hkey hd ha hn hl hr hbc hs
  obtain ⟨T, hT⟩ : ∃ T, T = str s := ⟨_, rfl⟩
  rw [← hT] at hs1 kP ⊢
  clear hT
  go_enter Tryz.func20, Tryz.ntmps20
  go_wp2_with (first
    | (go_at_call 42; (with_reducible refine (kK.out _ h.out).mono ?_); rintro e w1 ⟨rfl, h1⟩; replace h := Lib.hid h1; clear h1)
    | (go_at_call 43; (with_reducible refine (kH.out _ h.out).mono ?_); rintro e w2 ⟨rfl, h1⟩; replace h := Lib.hid h1; clear h1)
    | (go_at_call 41; (with_reducible refine (kP.out _ h.out).mono ?_); rintro e w3 ⟨rfl, h1⟩; replace h := Lib.hid h1; clear h1; have c0 : w3.cell? ⟨p, 0, none⟩ = some (.pointer (some ⟨xg, 0, none⟩)) := h.out.cell (i := 0) rfl 0)
    | (go_at_call 44; (with_reducible refine (kW.out _ h.out).mono ?_); rintro e w4 ⟨rfl, h1⟩; replace h := Lib.hid h1; clear h1; have c2 : w4.cell? ⟨p, 2, none⟩ = some (.pointer (some ⟨xb, 0, none⟩)) := h.out.cell (i := 0) rfl 2)
    | (go_at_call 45; (with_reducible refine (kS.out _ h.out).mono ?_); rintro e w5 ⟨rfl, h1⟩; replace h := Lib.hid h1; clear h1))
  go_returns
  exact ⟨rfl, h.out⟩
theorem lay_many {p : Nat} (n : Int) (s : ByteArray) (hs : 462 < s.size) (W : World) : Calls Tryz.prog 20 #[.pointer (some ⟨p, 0, none⟩), .int .i64 n, .string s] W fun e w' => e = .returned (.tuple #[.string ⟨#[]⟩, .string ⟨#[]⟩, .int .i64 1]) ∧ Below W.heap.size W w' := by
  have h1 : (462 : Int) < (s.size : Int) := by omega
  go_enter Tryz.func20, Tryz.ntmps20
  go_wp2
  go_returns
  exact ⟨rfl, by go_grown⟩
theorem lay_nil (n : Int) (s : ByteArray) (W : World) : Calls Tryz.prog 20 #[.pointer none, .int .i64 n, .string s] W fun e w' => e = .returned (.tuple #[.string ⟨#[]⟩, .string ⟨#[]⟩, .int .i64 1]) ∧ Below W.heap.size W w' := by
  go_enter Tryz.func20, Tryz.ntmps20
  go_wp2
  go_returns
  exact ⟨rfl, by go_grown⟩
theorem epoch_nil (n : Int) (W : World) : Calls Tryz.prog 14 #[.pointer none, .int .u32 n] W fun e w' => e = .returned (.tuple #[]) ∧ Below W.heap.size W w' := by
  go_enter Tryz.func14, Tryz.ntmps14
  go_wp2
  go_end0
  exact ⟨rfl, by go_grown⟩
theorem epoch_any {p : Nat} {x : PSt} (h : Hp w X (pg p x :: rs) W) (n : Nat) : Calls Tryz.prog 14 #[.pointer (some ⟨p, 0, none⟩), .int .u32 (n : Int)] W fun e w' => e = .returned (.tuple #[]) ∧ Hp w X (pg p { x with ep := n } :: rs) w' := by
  have c4 : W.cell? ⟨p, 4, none⟩ = some (.int .u32 (x.ep : Int)) := h.cell (i := 0) rfl 4
  have f4 := h.free (i := 0) rfl 4
  have fin : Hp w X (pg p { x with ep := n } :: rs) (W.setCell ⟨p, 4, none⟩ (.int .u32 (n : Int))) := h.put (i := 0) rfl 4 (.int .u32 (n : Int))
  replace fin := Lib.hid fin
  clear h
  go_enter Tryz.func14, Tryz.ntmps14
  go_wp2
  go_end0
  exact ⟨rfl, fin.out⟩
/-- a new pager, of 1 to 256 kept pages -/
def PSt.fresh (g d b s : Nat) (km fm : Nat) (most : Int) : PSt := ⟨g, d, b, s, 0, 0, 0, km, .slice none 0 0, min (max most 1) 256, 0, 0, fm, .slice none 0 0⟩
theorem new_any {g d b s : Nat} (h : Hp w X rs W) (most : Int) (hm : -9223372036854775808 ≤ most ∧ most ≤ 9223372036854775807) : Calls Tryz.prog 33 #[.pointer (some ⟨g, 0, none⟩), .pointer (some ⟨d, 0, none⟩), .pointer (some ⟨b, 0, none⟩), .pointer (some ⟨s, 0, none⟩), .int .i64 most] W fun e w' => ∃ p km fm, e = .returned (.pointer (some ⟨p, 0, none⟩)) ∧
    Hp w X (pg p (PSt.fresh g d b s km fm most) :: mset fm (fun _ => false) 0 :: mst 34 km (fun _ => none) 0 :: rs) w' := by
  have hmm := @run_makeMap Tryz.prog
  have h1 := mst_new h 34
  have h2 := mset_new h1
  have h3 := h2.alloc (PSt.fresh g d b s W.heap.size (W.alloc (.map #[] 0)).heap.size most).cells 89
  have hs : (W.alloc (.map #[] 0)).heap.size = W.heap.size + 1 := by simp
  have hs2 : ((W.alloc (.map #[] 0)).alloc (.map #[] 0)).heap.size = W.heap.size + 1 + 1 := by simp
  rw [hs, hs2] at h3
  replace h3 := Lib.hid h3
  clear h1 h2 hs hs2 h
  go_enter Tryz.func33, Tryz.ntmps33
  go_wp2
  all_goals
    go_ret
    exact ⟨W.heap.size + 1 + 1, W.heap.size, W.heap.size + 1, rfl, h3.out⟩
end
end Go.Proofs.YtcdcipfojfnblaaGreatDoor.pager
