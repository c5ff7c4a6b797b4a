/- SHA-256 (package sha): the words behind one block more. The table of salts is a premise. No other condition. -/
import Derived.Test.YtplfbpihhcnnmaaDoorSha2
namespace Go.Proofs.YtplfbpihhcnnmaaDoor.sha
open Go.RowKit
attribute [local go_sem ↓] Go.wp_at_zero Go.wp_at_succ
set_option linter.unusedVariables false
set_option maxRecDepth 100000

theorem eight8 : (Tryd.prog.info? 112).map (·.size) = some 8 := by kernel_rfl
/-- the table of salts lies here -/
def SaltAt (w : World) (ss : List Nat) : Prop := (∀ i, i < 64 → w.cell? ⟨1, i, none⟩ = some (.int .u32 ((ss.getD i 0 : Nat) : Int))) ∧ 1 < w.heap.size
theorem SaltAt.keep {w w' : World} {ss : List Nat} (h : SaltAt w ss) (k : Below w.heap.size w w') : SaltAt w' ss :=
  ⟨fun i hi => (k.cell h.2).trans (h.1 i hi), Nat.lt_of_lt_of_le h.2 k.size⟩
/-- what stands while words are mixed: the old ones, the block's, the table -/
def Mix (w wr : World) (W5 : Nat) (hs ws ss : List Nat) : Prop :=
  Words wr w.heap.size 112 hs ∧ (∃ z, wr.heap[w.heap.size + 1]? = some (.cells z 112 (0, 0)) ∧ z.size = 8) ∧ Words wr W5 191 ws ∧ SaltAt wr ss ∧ Below w.heap.size w wr
theorem Mix.drew {w wr : World} {W5 : Nat} {hs ws ss : List Nat} (h : Mix w wr W5 hs ws ss) : Mix w wr.drew W5 hs ws ss := ⟨h.1, h.2.1, h.2.2.1, h.2.2.2.1, h.2.2.2.2.drew⟩
theorem Mix.drewN {w wr : World} {W5 : Nat} {hs ws ss : List Nat} (h : Mix w wr W5 hs ws ss) (n : Nat) : Mix w (wr.drewN n) W5 hs ws ss := ⟨h.1, h.2.1, h.2.2.1, h.2.2.2.1, belowDrewN h.2.2.2.2 n⟩
theorem Mix.old {w wr : World} {W5 : Nat} {hs ws ss : List Nat} (h : Mix w wr W5 hs ws ss) : Words wr w.heap.size 112 hs := h.1
theorem Mix.ws {w wr : World} {W5 : Nat} {hs ws ss : List Nat} (h : Mix w wr W5 hs ws ss) : Words wr W5 191 ws := h.2.2.1
theorem Mix.ss {w wr : World} {W5 : Nat} {hs ws ss : List Nat} (h : Mix w wr W5 hs ws ss) {i : Nat} (hi : i < 64) : wr.cell? ⟨1, i, none⟩ = some (.int .u32 ((ss.getD i 0 : Nat) : Int)) := h.2.2.2.1.1 i hi
theorem not_32 (e : Nat) (h : e < 4294967296) : bits .xor .u32 IntKind.u32.max (e : Int) = ((4294967295 - e : Nat) : Int) := by
  show bits .xor .u32 ((4294967295 : Nat) : Int) (e : Int) = _
  rw [u32_xor_nat _ _ (by decide) h]
  congr 1
  apply Nat.eq_of_testBit_eq
  intro i
  have h1 := Nat.testBit_two_pow_sub_one 32 i
  have h2 := Nat.testBit_two_pow_sub_succ (n := 32) (x := e) h i
  rw [Nat.testBit_xor, show (4294967295 : Nat) = 2 ^ 32 - 1 from rfl, h1, show 2 ^ 32 - 1 - e = 2 ^ 32 - (e + 1) by omega, h2]
  by_cases hi : i < 32
  · simp [hi]
  · have : e.testBit i = false := Nat.testBit_lt_two_pow (Nat.lt_of_lt_of_le h (Nat.pow_le_pow_right (by decide) (by omega) : 2 ^ 32 ≤ 2 ^ i))
    simp [hi, this]
theorem mix_start {w w1 w2 : World} {cs zs : Array Value} {o : Obj} {hs ws ss : List Nat} (hcs : cs = (hs.map word).toArray) (hz : zs.size = 8)
    (b1 : Below ((w.alloc (.cells cs 112)).alloc (.cells zs 112)).heap.size ((w.alloc (.cells cs 112)).alloc (.cells zs 112)) w1) (hT : SaltAt w ss)
    (K2 : Keeps [w1.heap.size] (w1.alloc o) w2) (W2 : Words w2 w1.heap.size 191 ws) : Mix w w2 w1.heap.size hs ws ss := by
  have hsz := b1.size
  simp at hsz
  have kk : Keeps [w1.heap.size] ((w.alloc (.cells cs 112)).alloc (.cells zs 112)) w2 := ((Keeps.ofBelow b1 [w1.heap.size]).alloc o).trans K2
  have bel : Below w.heap.size w w2 := (((Below.refl _ w).alloc (Nat.le_refl _) _).alloc (by simp) _).trans (kk.below (by simp; omega) (by simp; omega))
  refine ⟨?_, ⟨zs, ?_, hz⟩, W2, hT.keep bel, bel⟩
  · unfold Words; rw [← hcs]
    exact (kk.block _ (by simp; omega) (by simp; omega)).trans (boxed2 _ _ _ _)
  · exact (kk.block _ (by simp) (by simp; omega)).trans (boxed2b _ _ _ _)
set_option maxRecDepth 100000 in
set_option maxHeartbeats 8000000 in
theorem mixed_any (ss hs : List Nat) (s : ByteArray) (h8 : hs.length = 8) (hsm : Small hs) (hsz : s.size = 64) (w : World) (hT : SaltAt w ss) (hss : Small ss) :
    Calls Tryd.prog 151 #[.agg (hs.map word).toArray, .string s] w fun e w' => e = .returned (.agg ((mixedL ss hs s).map word).toArray) ∧ Below w.heap.size w w' := by
  have hspr := fun w' => spread_any s hsz w'
  obtain ⟨ws, hws⟩ : ∃ ws, ws = sprL s 64 := ⟨_, rfl⟩
  have hwl : ws.length = 64 := by rw [hws]; exact sprL_len s 64
  have hwm : Small ws := by rw [hws]; exact sprL_small s 64
  have hml : mixedL ss hs s = addV hs (runV ws ss (ofL hs) 64) := by rw [hws]; rfl
  rw [← hws] at hspr
  rw [hml]
  have hok := fun k => runV_ok ws ss (ofL_ok hsm) k
  obtain ⟨v0, hv0⟩ : ∃ v, v = ofL hs := ⟨_, rfl⟩
  rw [← hv0] at hok ⊢
  obtain ⟨cs, hcs⟩ : ∃ cs, cs = (hs.map word).toArray := ⟨_, rfl⟩
  rw [← hcs]
  clear hws hml hsz
  replace hspr := Lib.hid hspr
  replace hwl := Lib.hid hwl
  replace hwm := Lib.hid hwm
  replace hok := Lib.hid hok
  replace hv0 := Lib.hid hv0
  replace hcs := Lib.hid hcs
  replace hT := Lib.hid hT
  replace h8 := Lib.hid h8
  replace hsm := Lib.hid hsm
  replace hss := Lib.hid hss
  go_enter Tryd.func151, Tryd.ntmps151
  go_upto_region 2 with (first
    | (go_at_call 166; (with_reducible refine (hspr.out _).mono ?_); rintro e w1 ⟨rfl, b1⟩; replace b1 := Lib.hid b1)
    | (refine wpList_store_words salts64 rfl (.tmp 5) (.tmp 19) rfl _ ws rfl rfl hwl.out ⟨_, heap_alloc_new _ _, rfl⟩ ?_; intro w2 W2 K2; replace W2 := Lib.hid W2; replace K2 := Lib.hid K2))
  have hM := mix_start (hs := hs) hcs.out rfl b1.out hT.out K2.out W2.out
  obtain ⟨W5, hW5⟩ : ∃ W, W = w1.heap.size := ⟨_, rfl⟩
  rw [← hW5] at hM ⊢
  replace hW5 := Lib.hid hW5
  clear b1 W2 K2 hT
  have va : v0.a = hs.getD 0 0 := by rw [hv0.out]; rfl
  have vb : v0.b = hs.getD 1 0 := by rw [hv0.out]; rfl
  have vc : v0.c = hs.getD 2 0 := by rw [hv0.out]; rfl
  have vd : v0.d = hs.getD 3 0 := by rw [hv0.out]; rfl
  have ve : v0.e = hs.getD 4 0 := by rw [hv0.out]; rfl
  have vf : v0.f = hs.getD 5 0 := by rw [hv0.out]; rfl
  have vg : v0.g = hs.getD 6 0 := by rw [hv0.out]; rfl
  have vh : v0.h = hs.getD 7 0 := by rw [hv0.out]; rfl
  replace va := Lib.hid va; replace vb := Lib.hid vb; replace vc := Lib.hid vc; replace vd := Lib.hid vd
  replace ve := Lib.hid ve; replace vf := Lib.hid vf; replace vg := Lib.hid vg; replace vh := Lib.hid vh
  have hOld := hM.old
  replace hM := Lib.hid hM
  have hl := h8.out
  simp only [Act.put]
  go_cut [6, 7, 8, 9] from 18 (fun a b c d wx => a = .int .u32 (v0.a : Int) ∧ b = .int .u32 (v0.b : Int) ∧ c = .int .u32 (v0.c : Int) ∧ d = .int .u32 (v0.d : Int) ∧ Mix w wx W5 hs ws ss)
  case first =>
    have c0 := hOld.cell (i := 0) (by omega)
    have c1 := hOld.cell (i := 1) (by omega)
    have c2 := hOld.cell (i := 2) (by omega)
    have c3 := hOld.cell (i := 3) (by omega)
    rw [← va.out] at c0; rw [← vb.out] at c1; rw [← vc.out] at c2; rw [← vd.out] at c3
    replace hOld := Lib.hid hOld
    clear hl
    go_quiet (fail)
    all_goals go_wp2_with fail
    all_goals try go_meet
    all_goals exact ⟨rfl, rfl, rfl, rfl, hM.out.drewN _⟩
  case rest =>
  clear hM hOld
  obtain ⟨rfl, rfl, rfl, rfl, hM⟩ := hcut
  have hOld := hM.old
  replace hM := Lib.hid hM
  go_upto_region 3 with fail
  go_cut [10, 11, 12, 13] from 18 (fun a b c d wx => a = .int .u32 (v0.e : Int) ∧ b = .int .u32 (v0.f : Int) ∧ c = .int .u32 (v0.g : Int) ∧ d = .int .u32 (v0.h : Int) ∧ Mix w wx W5 hs ws ss)
  case first =>
    have c4 := hOld.cell (i := 4) (by omega)
    have c5 := hOld.cell (i := 5) (by omega)
    have c6 := hOld.cell (i := 6) (by omega)
    have c7 := hOld.cell (i := 7) (by omega)
    rw [← ve.out] at c4; rw [← vf.out] at c5; rw [← vg.out] at c6; rw [← vh.out] at c7
    replace hOld := Lib.hid hOld
    clear hl
    go_quiet (fail)
    all_goals go_wp2_with fail
    all_goals try go_meet
    all_goals exact ⟨rfl, rfl, rfl, rfl, hM.out.drewN _⟩
  case rest =>
  clear hM hOld
  obtain ⟨rfl, rfl, rfl, rfl, hM⟩ := hcut
  replace hM := Lib.hid hM
  clear hl va vb vc vd ve vf vg vh
  go_upto_region 5 with fail
  go_loopg [6, 7, 8, 9, 10, 11, 12, 13, 36] 64 (fun gn s6 s7 s8 s9 s10 s11 s12 s13 s36 wr => ∃ i : Nat, s36 = .int .i64 (i : Int) ∧ i + gn = 64 ∧ s6 = .int .u32 ((runV ws ss v0 i).a : Int) ∧ s7 = .int .u32 ((runV ws ss v0 i).b : Int) ∧ s8 = .int .u32 ((runV ws ss v0 i).c : Int) ∧ s9 = .int .u32 ((runV ws ss v0 i).d : Int) ∧ s10 = .int .u32 ((runV ws ss v0 i).e : Int) ∧ s11 = .int .u32 ((runV ws ss v0 i).f : Int) ∧ s12 = .int .u32 ((runV ws ss v0 i).g : Int) ∧ s13 = .int .u32 ((runV ws ss v0 i).h : Int) ∧ Mix w wr W5 hs ws ss)
  case atStart => exact ⟨0, rfl, rfl, rfl, rfl, rfl, rfl, rfl, rfl, rfl, rfl, hM.out⟩
  case round =>
    clear hM
    obtain ⟨i, rfl, hi, rfl, rfl, rfl, rfl, rfl, rfl, rfl, rfl, hM⟩ := hrel
    have hv := hok.out i
    obtain ⟨v, hve⟩ : ∃ v, v = runV ws ss v0 i := ⟨_, rfl⟩
    rw [← hve] at hv ⊢
    obtain ⟨a, b, c, d, e, f, g, h⟩ := v
    obtain ⟨ha, hb, hc, hd, he, hf, hg, hh⟩ := hv
    dsimp only at ha hb hc hd he hf hg hh ⊢
    by_cases h0 : gk = 0
    · obtain rfl : i = 64 := by omega
      obtain ⟨y0, hy0⟩ : ∃ y, y = hs.getD 0 0 := ⟨_, rfl⟩
      have c0 := hM.old.cell (i := 0) (by rw [h8.out]; decide)
      rw [← hy0] at c0
      obtain ⟨x0, hx0⟩ : ∃ x, x = add32 y0 a := ⟨_, rfl⟩
      have e0 : ((y0 : Int) + a) % 4294967296 = (x0 : Int) := by rw [hx0]; simp [add32]
      obtain ⟨y1, hy1⟩ : ∃ y, y = hs.getD 1 0 := ⟨_, rfl⟩
      have c1 := hM.old.cell (i := 1) (by rw [h8.out]; decide)
      rw [← hy1] at c1
      obtain ⟨x1, hx1⟩ : ∃ x, x = add32 y1 b := ⟨_, rfl⟩
      have e1 : ((y1 : Int) + b) % 4294967296 = (x1 : Int) := by rw [hx1]; simp [add32]
      obtain ⟨y2, hy2⟩ : ∃ y, y = hs.getD 2 0 := ⟨_, rfl⟩
      have c2 := hM.old.cell (i := 2) (by rw [h8.out]; decide)
      rw [← hy2] at c2
      obtain ⟨x2, hx2⟩ : ∃ x, x = add32 y2 c := ⟨_, rfl⟩
      have e2 : ((y2 : Int) + c) % 4294967296 = (x2 : Int) := by rw [hx2]; simp [add32]
      obtain ⟨y3, hy3⟩ : ∃ y, y = hs.getD 3 0 := ⟨_, rfl⟩
      have c3 := hM.old.cell (i := 3) (by rw [h8.out]; decide)
      rw [← hy3] at c3
      obtain ⟨x3, hx3⟩ : ∃ x, x = add32 y3 d := ⟨_, rfl⟩
      have e3 : ((y3 : Int) + d) % 4294967296 = (x3 : Int) := by rw [hx3]; simp [add32]
      obtain ⟨y4, hy4⟩ : ∃ y, y = hs.getD 4 0 := ⟨_, rfl⟩
      have c4 := hM.old.cell (i := 4) (by rw [h8.out]; decide)
      rw [← hy4] at c4
      obtain ⟨x4, hx4⟩ : ∃ x, x = add32 y4 e := ⟨_, rfl⟩
      have e4 : ((y4 : Int) + e) % 4294967296 = (x4 : Int) := by rw [hx4]; simp [add32]
      obtain ⟨y5, hy5⟩ : ∃ y, y = hs.getD 5 0 := ⟨_, rfl⟩
      have c5 := hM.old.cell (i := 5) (by rw [h8.out]; decide)
      rw [← hy5] at c5
      obtain ⟨x5, hx5⟩ : ∃ x, x = add32 y5 f := ⟨_, rfl⟩
      have e5 : ((y5 : Int) + f) % 4294967296 = (x5 : Int) := by rw [hx5]; simp [add32]
      obtain ⟨y6, hy6⟩ : ∃ y, y = hs.getD 6 0 := ⟨_, rfl⟩
      have c6 := hM.old.cell (i := 6) (by rw [h8.out]; decide)
      rw [← hy6] at c6
      obtain ⟨x6, hx6⟩ : ∃ x, x = add32 y6 g := ⟨_, rfl⟩
      have e6 : ((y6 : Int) + g) % 4294967296 = (x6 : Int) := by rw [hx6]; simp [add32]
      obtain ⟨y7, hy7⟩ : ∃ y, y = hs.getD 7 0 := ⟨_, rfl⟩
      have c7 := hM.old.cell (i := 7) (by rw [h8.out]; decide)
      rw [← hy7] at c7
      obtain ⟨x7, hx7⟩ : ∃ x, x = add32 y7 h := ⟨_, rfl⟩
      have e7 : ((y7 : Int) + h) % 4294967296 = (x7 : Int) := by rw [hx7]; simp [add32]
      have hfin : addV hs (runV ws ss v0 64) = [x0, x1, x2, x3, x4, x5, x6, x7] := by
        rw [← hve, hx0, hx1, hx2, hx3, hx4, hx5, hx6, hx7, hy0, hy1, hy2, hy3, hy4, hy5, hy6, hy7]; rfl
      replace hfin := Lib.hid hfin
      replace hM := Lib.hid hM
      clear hve hx0 hx1 hx2 hx3 hx4 hx5 hx6 hx7 hy0 hy1 hy2 hy3 hy4 hy5 hy6 hy7 ha hb hc hd he hf hg hh hi h0
      go_wp2_with (refine wpList_store_words eight8 rfl (.tmp 4) (.tmp 133) rfl (w.heap.size + 1) [x0, x1, x2, x3, x4, x5, x6, x7] rfl rfl rfl hM.out.2.1 ?_; intro w5 W5' K5; replace W5' := Lib.hid W5'; replace K5 := Lib.hid K5)
      exact bodyPost_ret (v := .agg (([x0, x1, x2, x3, x4, x5, x6, x7]).map word).toArray) (results_cell_row rfl _ _ (w.heap.size + 1) 112 _ (0, 0) _ rfl W5'.out Tryd.underlying112 rfl eight8) rfl ⟨by rw [hfin.out], hM.out.2.2.2.2.trans (K5.out.below hM.out.2.2.2.2.size (by simp))⟩
    · obtain ⟨K, rfl⟩ : ∃ K : Nat, gk = K + 1 := ⟨gk - 1, by omega⟩
      have i1 : (i : Int) < 64 := by omega
      have i0 : (0 : Int) ≤ (i : Int) := by omega
      have cw := hM.ws.cell (i := i) (by rw [hwl.out]; omega)
      have cs2 := hM.ss (i := i) (by omega)
      obtain ⟨x, hx⟩ : ∃ x, x = ws.getD i 0 := ⟨_, rfl⟩
      obtain ⟨sv, hsv⟩ : ∃ x, x = ss.getD i 0 := ⟨_, rfl⟩
      rw [← hx] at cw
      rw [← hsv] at cs2
      replace hM := Lib.hid hM
      have hi2 := Lib.hid hi
      replace hve := Lib.hid hve
      replace hx := Lib.hid hx
      replace hsv := Lib.hid hsv
      clear hi h0
      obtain ⟨r1, hr1⟩ : ∃ r, r = rotr e 6 := ⟨_, rfl⟩
      obtain ⟨r2, hr2⟩ : ∃ r, r = rotr e 11 := ⟨_, rfl⟩
      obtain ⟨r3, hr3⟩ : ∃ r, r = r1 ^^^ r2 := ⟨_, rfl⟩
      obtain ⟨r4, hr4⟩ : ∃ r, r = rotr e 25 := ⟨_, rfl⟩
      obtain ⟨S1, hS1⟩ : ∃ r, r = sig1 e := ⟨_, rfl⟩
      have t1 : ∀ w', Calls Tryd.prog 167 #[.int .u32 (e : Int), .int .i64 (-6)] w' fun e w2 => e = .returned (.int .u32 (r1 : Int)) ∧ w2 = w' := fun w' => by rw [hr1]; exact rotr_same e 6 he (by omega) w'
      have t2 : ∀ w', Calls Tryd.prog 167 #[.int .u32 (e : Int), .int .i64 (-11)] w' fun e w2 => e = .returned (.int .u32 (r2 : Int)) ∧ w2 = w' := fun w' => by rw [hr2]; exact rotr_same e 11 he (by omega) w'
      have t3 : ∀ w', Calls Tryd.prog 167 #[.int .u32 (e : Int), .int .i64 (-25)] w' fun e w2 => e = .returned (.int .u32 (r4 : Int)) ∧ w2 = w' := fun w' => by rw [hr4]; exact rotr_same e 25 he (by omega) w'
      have b1 : bits .xor .u32 (r1 : Int) (r2 : Int) = (r3 : Int) := by rw [u32_xor_nat _ _ (by rw [hr1]; exact rotr_lt _ _ he) (by rw [hr2]; exact rotr_lt _ _ he), hr3]
      have b2 : bits .xor .u32 (r3 : Int) (r4 : Int) = (S1 : Int) := by
        rw [u32_xor_nat _ _ (by rw [hr3, hr1, hr2]; exact xor_lt (rotr_lt _ _ he) (rotr_lt _ _ he)) (by rw [hr4]; exact rotr_lt _ _ he), hS1, hr4, hr3, hr1, hr2]; rfl
      clear hr1 hr2 hr3 hr4
      replace hS1 := Lib.hid hS1
      replace t1 := Lib.hid t1; replace t2 := Lib.hid t2; replace t3 := Lib.hid t3
      go_upto_region 8 with (first | (go_at_call 167; (with_reducible refine (t1.out _).mono ?_); rintro e w1 ⟨rfl, rfl⟩) | (go_at_call 167; (with_reducible refine (t2.out _).mono ?_); rintro e w1 ⟨rfl, rfl⟩) | (go_at_call 167; (with_reducible refine (t3.out _).mono ?_); rintro e w1 ⟨rfl, rfl⟩))
      clear b1 b2 t1 t2 t3
      go_cut [16] from 37 to 100 (fun p wx => p = .int .u32 (tOf x sv ⟨a, b, c, d, e, f, g, h⟩ : Int) ∧ Mix w wx W5 hs ws ss)
      case first =>
        obtain ⟨p1, hp1⟩ : ∃ p, p = e &&& f := ⟨_, rfl⟩
        obtain ⟨ne, hne⟩ : ∃ p, p = 4294967295 - e := ⟨_, rfl⟩
        obtain ⟨p2, hp2⟩ : ∃ p, p = ne &&& g := ⟨_, rfl⟩
        obtain ⟨C, hC⟩ : ∃ p, p = cho e f g := ⟨_, rfl⟩
        have b1 : bits .and .u32 (e : Int) (f : Int) = (p1 : Int) := by rw [u32_and_nat _ _ he hf, hp1]
        have b2 : bits .xor .u32 IntKind.u32.max (e : Int) = (ne : Int) := by rw [not_32 e he, hne]
        have b3 : bits .and .u32 (ne : Int) (g : Int) = (p2 : Int) := by rw [u32_and_nat _ _ (by omega) hg, hp2]
        have b4 : bits .xor .u32 (p1 : Int) (p2 : Int) = (C : Int) := by
          rw [u32_xor_nat _ _ (by rw [hp1]; exact and_lt he) (by rw [hp2]; exact and_lt (by omega)), hC, hp1, hp2, hne]; rfl
        have hfin : ((h : Int) + S1 + C + sv + x) % 4294967296 = ((tOf x sv ⟨a, b, c, d, e, f, g, h⟩ : Nat) : Int) := by
          rw [hS1.out, hC]; unfold tOf add32; dsimp only; omega
        clear hp1 hne hp2 hC
        go_quiet (fail)
        all_goals go_wp2_with fail
        all_goals go_meet
        all_goals exact ⟨by first | rfl | rw [hfin], hM.out.drewN _⟩
      case rest =>
      obtain ⟨rfl, hM⟩ := hcut
      replace hM := Lib.hid hM
      obtain ⟨t, ht⟩ : ∃ t, t = tOf x sv ⟨a, b, c, d, e, f, g, h⟩ := ⟨_, rfl⟩
      rw [← ht]
      have hst : runV ws ss v0 (i + 1) = stepV x sv ⟨a, b, c, d, e, f, g, h⟩ := by
        show stepV (ws.getD i 0) (ss.getD i 0) (runV ws ss v0 i) = _
        rw [← hve.out, ← hx.out, ← hsv.out]
      replace hst := Lib.hid hst
      replace ht := Lib.hid ht
      obtain ⟨r1, hr1⟩ : ∃ r, r = rotr a 2 := ⟨_, rfl⟩
      obtain ⟨r2, hr2⟩ : ∃ r, r = rotr a 13 := ⟨_, rfl⟩
      obtain ⟨r3, hr3⟩ : ∃ r, r = r1 ^^^ r2 := ⟨_, rfl⟩
      obtain ⟨r4, hr4⟩ : ∃ r, r = rotr a 22 := ⟨_, rfl⟩
      obtain ⟨S0, hS0⟩ : ∃ r, r = sig0 a := ⟨_, rfl⟩
      have t1 : ∀ w', Calls Tryd.prog 167 #[.int .u32 (a : Int), .int .i64 (-2)] w' fun e w2 => e = .returned (.int .u32 (r1 : Int)) ∧ w2 = w' := fun w' => by rw [hr1]; exact rotr_same a 2 ha (by omega) w'
      have t2 : ∀ w', Calls Tryd.prog 167 #[.int .u32 (a : Int), .int .i64 (-13)] w' fun e w2 => e = .returned (.int .u32 (r2 : Int)) ∧ w2 = w' := fun w' => by rw [hr2]; exact rotr_same a 13 ha (by omega) w'
      have t3 : ∀ w', Calls Tryd.prog 167 #[.int .u32 (a : Int), .int .i64 (-22)] w' fun e w2 => e = .returned (.int .u32 (r4 : Int)) ∧ w2 = w' := fun w' => by rw [hr4]; exact rotr_same a 22 ha (by omega) w'
      have b1 : bits .xor .u32 (r1 : Int) (r2 : Int) = (r3 : Int) := by rw [u32_xor_nat _ _ (by rw [hr1]; exact rotr_lt _ _ ha) (by rw [hr2]; exact rotr_lt _ _ ha), hr3]
      have b2 : bits .xor .u32 (r3 : Int) (r4 : Int) = (S0 : Int) := by
        rw [u32_xor_nat _ _ (by rw [hr3, hr1, hr2]; exact xor_lt (rotr_lt _ _ ha) (rotr_lt _ _ ha)) (by rw [hr4]; exact rotr_lt _ _ ha), hS0, hr4, hr3, hr1, hr2]; rfl
      obtain ⟨p1, hp1⟩ : ∃ p, p = a &&& b := ⟨_, rfl⟩
      obtain ⟨p2, hp2⟩ : ∃ p, p = a &&& c := ⟨_, rfl⟩
      obtain ⟨p3, hp3⟩ : ∃ p, p = p1 ^^^ p2 := ⟨_, rfl⟩
      obtain ⟨p4, hp4⟩ : ∃ p, p = b &&& c := ⟨_, rfl⟩
      obtain ⟨mj, hmj⟩ : ∃ p, p = maj a b c := ⟨_, rfl⟩
      have q1 : bits .and .u32 (a : Int) (b : Int) = (p1 : Int) := by rw [u32_and_nat _ _ ha hb, hp1]
      have q2 : bits .and .u32 (a : Int) (c : Int) = (p2 : Int) := by rw [u32_and_nat _ _ ha hc, hp2]
      have q3 : bits .xor .u32 (p1 : Int) (p2 : Int) = (p3 : Int) := by rw [u32_xor_nat _ _ (by rw [hp1]; exact and_lt ha) (by rw [hp2]; exact and_lt ha), hp3]
      have q4 : bits .and .u32 (b : Int) (c : Int) = (p4 : Int) := by rw [u32_and_nat _ _ hb hc, hp4]
      have q5 : bits .xor .u32 (p3 : Int) (p4 : Int) = (mj : Int) := by
        rw [u32_xor_nat _ _ (by rw [hp3, hp1, hp2]; exact xor_lt (and_lt ha) (and_lt ha)) (by rw [hp4]; exact and_lt hb), hmj, hp4, hp3, hp2, hp1]; rfl
      obtain ⟨u, hu⟩ : ∃ u, u = uOf ⟨a, b, c, d, e, f, g, h⟩ := ⟨_, rfl⟩
      have q6 : ((S0 : Int) + mj) % 4294967296 = (u : Int) := by rw [hu, hS0, hmj]; unfold uOf add32; dsimp only; omega
      obtain ⟨n1, hn1⟩ : ∃ n, n = add32 t u := ⟨_, rfl⟩
      obtain ⟨n2, hn2⟩ : ∃ n, n = add32 d t := ⟨_, rfl⟩
      have q7 : ((t : Int) + u) % 4294967296 = (n1 : Int) := by rw [hn1]; unfold add32; omega
      have q8 : ((d : Int) + t) % 4294967296 = (n2 : Int) := by rw [hn2]; unfold add32; omega
      have hV : runV ws ss v0 (i + 1) = ⟨n1, a, b, c, n2, e, f, g⟩ := by rw [hst.out, hn1, hn2, hu, ht.out]; rfl
      replace hV := Lib.hid hV
      clear hr1 hr2 hr3 hr4 hS0 hp1 hp2 hp3 hp4 hmj hu hn1 hn2
      replace t1 := Lib.hid t1; replace t2 := Lib.hid t2; replace t3 := Lib.hid t3
      clear ha hb hc hd he hf hg hh
      go_wp2_with (first | (go_at_call 167; (with_reducible refine (t1.out _).mono ?_); rintro e w1 ⟨rfl, rfl⟩) | (go_at_call 167; (with_reducible refine (t2.out _).mono ?_); rintro e w1 ⟨rfl, rfl⟩) | (go_at_call 167; (with_reducible refine (t3.out _).mono ?_); rintro e w1 ⟨rfl, rfl⟩))
      go_roundg K
      case measure => omega
      case rel =>
        refine ⟨i + 1, by go_num, by have := hi2.out; omega, ?_⟩
        rw [hV.out]
        exact ⟨by first | rfl | rw [q7], rfl, rfl, rfl, by first | rfl | rw [q8], rfl, rfl, rfl, hM.out⟩
end Go.Proofs.YtplfbpihhcnnmaaDoor.sha
