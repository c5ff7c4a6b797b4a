/- The document's own SHA-256 (package lodestoneref01): the words behind a block, walked. No condition. -/
import Derived.Test.YtplfbpihhcnnmaaDoorShaR2
namespace Go.Proofs.YtplfbpihhcnnmaaDoor.sha
open Go.RowKit
attribute [local go_sem ↓] Go.wp_at_zero Go.wp_at_succ
set_option linter.unusedVariables false
set_option maxRecDepth 100000
set_option maxRecDepth 100000 in
set_option maxHeartbeats 16000000 in
theorem rwords_any (ss hs : List Nat) (s : ByteArray) (h8 : hs.length = 8) (hsm : Small hs) (hsz : s.size = 64) (h64 : ss.length = 64) (hss : Small ss) (G : Nat) (w : World) (hG : Words w G 111 ss) :
    Calls Tryd.prog 80 #[.agg (hs.map word).toArray, .string s, .slice (some ⟨G, 0, none⟩) 64 64] w fun e w' => e = .returned (.agg ((mixedL ss hs s).map word).toArray) ∧ Below w.heap.size w w' := by
  have hml : mixedL ss hs s = addV hs (runV (sprL s 64) ss (ofL hs) 64) := rfl
  obtain ⟨cs, hcs⟩ : ∃ cs, cs = (hs.map word).toArray := ⟨_, rfl⟩
  rw [← hcs]
  have hmk := run_make_64
  obtain ⟨zw, hzw⟩ : ∃ zw, zw = ((List.replicate 64 0).map word).toArray := ⟨_, rfl⟩
  rw [← hzw] at hmk
  have hst := fun (zs : Array Value) (hz : zs.size = 8) => rmix_start (w := w) (cs := cs) (zs := zs) (hs := hs) (ss := ss) (G := G) hcs hz hG
  rw [← hzw] at hst
  replace hst := Lib.hid hst
  replace hzw := Lib.hid hzw
  replace hcs := Lib.hid hcs
  replace hG := Lib.hid hG
  replace h8 := Lib.hid h8
  replace hsm := Lib.hid hsm
  replace hss := Lib.hid hss
  replace hml := Lib.hid hml
  replace hsz := Lib.hid hsz
  replace h64 := Lib.hid h64
  go_enter Tryd.func80, Tryd.ntmps80
  go_wp2
  go_loopg [8] 64 (fun gn s8 wr => ∃ i : Nat, s8 = .int .i64 (i : Int) ∧ i + gn = 64 ∧ RMix w wr G hs (sprL s i) ss)
  case atStart => exact ⟨0, rfl, rfl, hst.out _ rfl⟩
  case round =>
    clear hst hG
    obtain ⟨i, rfl, hi, hM⟩ := hrel
    by_cases h0 : gk = 0
    · obtain rfl : i = 64 := by omega
      obtain ⟨ws, hws⟩ : ∃ ws, ws = sprL s 64 := ⟨_, rfl⟩
      have hwl : ws.length = 64 := by rw [hws]; exact sprL_len s 64
      have hml2 := hml.out
      rw [← hws] at hM hml2
      clear hws hi h0
      have hok := fun k => runV_ok ws ss (ofL_ok hsm.out) k
      obtain ⟨v0, hv0⟩ : ∃ v, v = ofL hs := ⟨_, rfl⟩
      rw [← hv0] at hok hml2
      replace hwl := Lib.hid hwl
      replace hok := Lib.hid hok
      replace hml2 := Lib.hid hml2
      have va : v0.a = hs.getD 0 0 := by rw [hv0]; rfl
      have c0 := hM.old.cell (i := 0) (by rw [h8.out]; decide)
      rw [← va] at c0
      have vb : v0.b = hs.getD 1 0 := by rw [hv0]; rfl
      have c1 := hM.old.cell (i := 1) (by rw [h8.out]; decide)
      rw [← vb] at c1
      have vc : v0.c = hs.getD 2 0 := by rw [hv0]; rfl
      have c2 := hM.old.cell (i := 2) (by rw [h8.out]; decide)
      rw [← vc] at c2
      have vd : v0.d = hs.getD 3 0 := by rw [hv0]; rfl
      have c3 := hM.old.cell (i := 3) (by rw [h8.out]; decide)
      rw [← vd] at c3
      have ve : v0.e = hs.getD 4 0 := by rw [hv0]; rfl
      have c4 := hM.old.cell (i := 4) (by rw [h8.out]; decide)
      rw [← ve] at c4
      have vf : v0.f = hs.getD 5 0 := by rw [hv0]; rfl
      have c5 := hM.old.cell (i := 5) (by rw [h8.out]; decide)
      rw [← vf] at c5
      have vg : v0.g = hs.getD 6 0 := by rw [hv0]; rfl
      have c6 := hM.old.cell (i := 6) (by rw [h8.out]; decide)
      rw [← vg] at c6
      have vh : v0.h = hs.getD 7 0 := by rw [hv0]; rfl
      have c7 := hM.old.cell (i := 7) (by rw [h8.out]; decide)
      rw [← vh] at c7
      clear va vb vc vd ve vf vg vh
      replace hM := Lib.hid hM
      replace hv0 := Lib.hid hv0
      go_upto_region 9 with fail
      go_cut [11, 12, 13, 14, 15, 16, 17, 18] from 103 (fun a b c d e f g h wx => a = .int .u32 (v0.a : Int) ∧ b = .int .u32 (v0.b : Int) ∧ c = .int .u32 (v0.c : Int) ∧ d = .int .u32 (v0.d : Int) ∧ e = .int .u32 (v0.e : Int) ∧ f = .int .u32 (v0.f : Int) ∧ g = .int .u32 (v0.g : Int) ∧ h = .int .u32 (v0.h : Int) ∧ RMix w wx G hs ws ss)
      case first =>
        go_quiet (fail)
        all_goals go_wp2_with fail
        all_goals try go_meet
        all_goals exact ⟨rfl, rfl, rfl, rfl, rfl, rfl, rfl, rfl, hM.out.drewN _⟩
      case rest =>
      clear hM c0 c1 c2 c3 c4 c5 c6 c7
      obtain ⟨rfl, rfl, rfl, rfl, rfl, rfl, rfl, rfl, hM⟩ := hcut
      replace hM := Lib.hid hM
      go_upto_region 11 with fail
      go_loopg [11, 12, 13, 14, 15, 16, 17, 18, 19] 64 (fun gn s11 s12 s13 s14 s15 s16 s17 s18 s19 wr => ∃ i : Nat, s19 = .int .i64 (i : Int) ∧ i + gn = 64 ∧ s11 = .int .u32 ((runV ws ss v0 i).a : Int) ∧ s12 = .int .u32 ((runV ws ss v0 i).b : Int) ∧ s13 = .int .u32 ((runV ws ss v0 i).c : Int) ∧ s14 = .int .u32 ((runV ws ss v0 i).d : Int) ∧ s15 = .int .u32 ((runV ws ss v0 i).e : Int) ∧ s16 = .int .u32 ((runV ws ss v0 i).f : Int) ∧ s17 = .int .u32 ((runV ws ss v0 i).g : Int) ∧ s18 = .int .u32 ((runV ws ss v0 i).h : Int) ∧ RMix w wr G hs ws ss)
      case atStart => exact ⟨0, rfl, rfl, rfl, rfl, rfl, rfl, rfl, rfl, rfl, rfl, hM.out⟩
      case round =>
        clear hM
        obtain ⟨i, rfl, hi, rfl, rfl, rfl, rfl, rfl, rfl, rfl, rfl, hM⟩ := hrel
        have hv := hok.out i
        obtain ⟨v, hve⟩ : ∃ v, v = runV ws ss v0 i := ⟨_, rfl⟩
        rw [← hve] at hv ⊢
        obtain ⟨a, b, c, d, e, f, g, h⟩ := v
        obtain ⟨ha, hb, hc, hd, he, hf, hg, hh⟩ := hv
        dsimp only at ha hb hc hd he hf hg hh ⊢
        by_cases h0 : gk = 0
        · obtain rfl : i = 64 := by omega
          obtain ⟨y0, hy0⟩ : ∃ y, y = hs.getD 0 0 := ⟨_, rfl⟩
          have c0 := hM.old.cell (i := 0) (by rw [h8.out]; decide)
          rw [← hy0] at c0
          obtain ⟨x0, hx0⟩ : ∃ x, x = add32 y0 a := ⟨_, rfl⟩
          have e0 : ((y0 : Int) + a) % 4294967296 = (x0 : Int) := by rw [hx0]; simp [add32]
          obtain ⟨y1, hy1⟩ : ∃ y, y = hs.getD 1 0 := ⟨_, rfl⟩
          have c1 := hM.old.cell (i := 1) (by rw [h8.out]; decide)
          rw [← hy1] at c1
          obtain ⟨x1, hx1⟩ : ∃ x, x = add32 y1 b := ⟨_, rfl⟩
          have e1 : ((y1 : Int) + b) % 4294967296 = (x1 : Int) := by rw [hx1]; simp [add32]
          obtain ⟨y2, hy2⟩ : ∃ y, y = hs.getD 2 0 := ⟨_, rfl⟩
          have c2 := hM.old.cell (i := 2) (by rw [h8.out]; decide)
          rw [← hy2] at c2
          obtain ⟨x2, hx2⟩ : ∃ x, x = add32 y2 c := ⟨_, rfl⟩
          have e2 : ((y2 : Int) + c) % 4294967296 = (x2 : Int) := by rw [hx2]; simp [add32]
          obtain ⟨y3, hy3⟩ : ∃ y, y = hs.getD 3 0 := ⟨_, rfl⟩
          have c3 := hM.old.cell (i := 3) (by rw [h8.out]; decide)
          rw [← hy3] at c3
          obtain ⟨x3, hx3⟩ : ∃ x, x = add32 y3 d := ⟨_, rfl⟩
          have e3 : ((y3 : Int) + d) % 4294967296 = (x3 : Int) := by rw [hx3]; simp [add32]
          obtain ⟨y4, hy4⟩ : ∃ y, y = hs.getD 4 0 := ⟨_, rfl⟩
          have c4 := hM.old.cell (i := 4) (by rw [h8.out]; decide)
          rw [← hy4] at c4
          obtain ⟨x4, hx4⟩ : ∃ x, x = add32 y4 e := ⟨_, rfl⟩
          have e4 : ((y4 : Int) + e) % 4294967296 = (x4 : Int) := by rw [hx4]; simp [add32]
          obtain ⟨y5, hy5⟩ : ∃ y, y = hs.getD 5 0 := ⟨_, rfl⟩
          have c5 := hM.old.cell (i := 5) (by rw [h8.out]; decide)
          rw [← hy5] at c5
          obtain ⟨x5, hx5⟩ : ∃ x, x = add32 y5 f := ⟨_, rfl⟩
          have e5 : ((y5 : Int) + f) % 4294967296 = (x5 : Int) := by rw [hx5]; simp [add32]
          obtain ⟨y6, hy6⟩ : ∃ y, y = hs.getD 6 0 := ⟨_, rfl⟩
          have c6 := hM.old.cell (i := 6) (by rw [h8.out]; decide)
          rw [← hy6] at c6
          obtain ⟨x6, hx6⟩ : ∃ x, x = add32 y6 g := ⟨_, rfl⟩
          have e6 : ((y6 : Int) + g) % 4294967296 = (x6 : Int) := by rw [hx6]; simp [add32]
          obtain ⟨y7, hy7⟩ : ∃ y, y = hs.getD 7 0 := ⟨_, rfl⟩
          have c7 := hM.old.cell (i := 7) (by rw [h8.out]; decide)
          rw [← hy7] at c7
          obtain ⟨x7, hx7⟩ : ∃ x, x = add32 y7 h := ⟨_, rfl⟩
          have e7 : ((y7 : Int) + h) % 4294967296 = (x7 : Int) := by rw [hx7]; simp [add32]
          have hfin : mixedL ss hs s = [x0, x1, x2, x3, x4, x5, x6, x7] := by
            rw [hml2.out, ← hve, hx0, hx1, hx2, hx3, hx4, hx5, hx6, hx7, hy0, hy1, hy2, hy3, hy4, hy5, hy6, hy7]; rfl
          replace hfin := Lib.hid hfin
          replace hM := Lib.hid hM
          clear hve hx0 hx1 hx2 hx3 hx4 hx5 hx6 hx7 hy0 hy1 hy2 hy3 hy4 hy5 hy6 hy7 ha hb hc hd he hf hg hh hi h0
          go_wp2_with (refine wpList_store_words eight8 rfl (.tmp 6) (.tmp 216) rfl (w.heap.size + 1) [x0, x1, x2, x3, x4, x5, x6, x7] rfl rfl rfl hM.out.res ?_; intro w5 W5' K5; replace W5' := Lib.hid W5'; replace K5 := Lib.hid K5)
          exact bodyPost_ret (v := .agg (([x0, x1, x2, x3, x4, x5, x6, x7]).map word).toArray) (results_cell_row rfl _ _ (w.heap.size + 1) 112 _ (0, 0) _ rfl W5'.out Tryd.underlying112 rfl eight8) rfl ⟨by rw [hfin.out], hM.out.low.trans (K5.out.below hM.out.low.size (by simp))⟩
        · obtain ⟨K, rfl⟩ : ∃ K : Nat, gk = K + 1 := ⟨gk - 1, by omega⟩
          have i1 : (i : Int) < 64 := by omega
          have i0 : (0 : Int) ≤ (i : Int) := by omega
          have cw := hM.ws.cell (i := i) (by rw [hwl.out]; omega)
          have cs2 := hM.ss.cell (i := i) (by rw [h64.out]; omega)
          obtain ⟨x, hx⟩ : ∃ x, x = ws.getD i 0 := ⟨_, rfl⟩
          obtain ⟨sv, hsv⟩ : ∃ x, x = ss.getD i 0 := ⟨_, rfl⟩
          rw [← hx] at cw
          rw [← hsv] at cs2
          have hV0 : runV ws ss v0 (i + 1) = stepV x sv ⟨a, b, c, d, e, f, g, h⟩ := by
            show stepV (ws.getD i 0) (ss.getD i 0) (runV ws ss v0 i) = _
            rw [← hve, ← hx, ← hsv]
          replace hM := Lib.hid hM
          have hi2 := Lib.hid hi
          replace hV0 := Lib.hid hV0
          clear hi h0 hve hx hsv
          go_upto_region 13 with fail
          go_cut [20] from 119 to 183 (fun p wx => p = .int .u32 (tOf x sv ⟨a, b, c, d, e, f, g, h⟩ : Int) ∧ RMix w wx G hs ws ss)
          case first =>
            obtain ⟨r1, hr1⟩ : ∃ r, r = rotr e 6 := ⟨_, rfl⟩
            obtain ⟨r2, hr2⟩ : ∃ r, r = rotr e 11 := ⟨_, rfl⟩
            obtain ⟨r3, hr3⟩ : ∃ r, r = r1 ^^^ r2 := ⟨_, rfl⟩
            obtain ⟨r4, hr4⟩ : ∃ r, r = rotr e 25 := ⟨_, rfl⟩
            obtain ⟨S1, hS1⟩ : ∃ r, r = sig1 e := ⟨_, rfl⟩
            have t1 : ∀ w', Calls Tryd.prog 127 #[.int .u32 (e : Int), .int .u64 6] w' fun e w2 => e = .returned (.int .u32 (r1 : Int)) ∧ w2 = w' := fun w' => leftTurns e 6 r1 he (by omega) hr1 w'
            have t2 : ∀ w', Calls Tryd.prog 127 #[.int .u32 (e : Int), .int .u64 11] w' fun e w2 => e = .returned (.int .u32 (r2 : Int)) ∧ w2 = w' := fun w' => leftTurns e 11 r2 he (by omega) hr2 w'
            have t3 : ∀ w', Calls Tryd.prog 127 #[.int .u32 (e : Int), .int .u64 25] w' fun e w2 => e = .returned (.int .u32 (r4 : Int)) ∧ w2 = w' := fun w' => leftTurns e 25 r4 he (by omega) hr4 w'
            have b1 : bits .xor .u32 (r1 : Int) (r2 : Int) = (r3 : Int) := by rw [u32_xor_nat _ _ (by rw [hr1]; exact rotr_lt _ _ he) (by rw [hr2]; exact rotr_lt _ _ he), hr3]
            have b2 : bits .xor .u32 (r3 : Int) (r4 : Int) = (S1 : Int) := by
              rw [u32_xor_nat _ _ (by rw [hr3, hr1, hr2]; exact xor_lt (rotr_lt _ _ he) (rotr_lt _ _ he)) (by rw [hr4]; exact rotr_lt _ _ he), hS1, hr4, hr3, hr1, hr2]; rfl
            obtain ⟨p1, hp1⟩ : ∃ p, p = e &&& f := ⟨_, rfl⟩
            obtain ⟨ne, hne⟩ : ∃ p, p = 4294967295 - e := ⟨_, rfl⟩
            obtain ⟨p2, hp2⟩ : ∃ p, p = ne &&& g := ⟨_, rfl⟩
            obtain ⟨C, hC⟩ : ∃ p, p = cho e f g := ⟨_, rfl⟩
            have q1 : bits .and .u32 (e : Int) (f : Int) = (p1 : Int) := by rw [u32_and_nat _ _ he hf, hp1]
            have q2 : (4294967295 - (e : Int)) % 4294967296 = (ne : Int) := by omega
            have q2w : IntKind.u32.wrap (4294967295 - (e : Int)) = (ne : Int) := by rw [IntKind.wrap_u32]; omega
            have q3 : bits .and .u32 (ne : Int) (g : Int) = (p2 : Int) := by rw [u32_and_nat _ _ (by omega) hg, hp2]
            have q4 : bits .xor .u32 (p1 : Int) (p2 : Int) = (C : Int) := by
              rw [u32_xor_nat _ _ (by rw [hp1]; exact and_lt he) (by rw [hp2]; exact and_lt (by omega)), hC, hp1, hp2, hne]; rfl
            have hfin : ((h : Int) + S1 + C + sv + x) % 4294967296 = ((tOf x sv ⟨a, b, c, d, e, f, g, h⟩ : Nat) : Int) := by
              rw [hS1, hC]; unfold tOf add32; dsimp only; omega
            clear hr1 hr2 hr3 hr4 hS1 hp1 hne hp2 hC ha hb hc hd he hf hg hh
            replace t1 := Lib.hid t1; replace t2 := Lib.hid t2; replace t3 := Lib.hid t3
            refine wp_region_still_lit (by kernel_rfl) (by kernel_rfl) ?_
            change wpStill _ _ wr.drew _ _ _
            repeat still_step
            still_call (t1.out _)
            repeat still_step
            still_call (t2.out _)
            repeat still_step
            still_call (t3.out _)
            repeat still_step
            refine wpStill_nil ?_
            go_wp2_with fail
            go_meet
            exact ⟨congrArg (Value.int .u32) (by simp only [IntKind.wrap_u32]; omega), hM.out.drew⟩
          case rest =>
          clear hM cw cs2
          obtain ⟨rfl, hM⟩ := hcut
          replace hM := Lib.hid hM
          obtain ⟨t, ht⟩ : ∃ t, t = tOf x sv ⟨a, b, c, d, e, f, g, h⟩ := ⟨_, rfl⟩
          rw [← ht]
          obtain ⟨r1, hr1⟩ : ∃ r, r = rotr a 2 := ⟨_, rfl⟩
          obtain ⟨r2, hr2⟩ : ∃ r, r = rotr a 13 := ⟨_, rfl⟩
          obtain ⟨r3, hr3⟩ : ∃ r, r = r1 ^^^ r2 := ⟨_, rfl⟩
          obtain ⟨r4, hr4⟩ : ∃ r, r = rotr a 22 := ⟨_, rfl⟩
          obtain ⟨S0, hS0⟩ : ∃ r, r = sig0 a := ⟨_, rfl⟩
          have t1 : ∀ w', Calls Tryd.prog 127 #[.int .u32 (a : Int), .int .u64 2] w' fun e w2 => e = .returned (.int .u32 (r1 : Int)) ∧ w2 = w' := fun w' => leftTurns a 2 r1 ha (by omega) hr1 w'
          have t2 : ∀ w', Calls Tryd.prog 127 #[.int .u32 (a : Int), .int .u64 13] w' fun e w2 => e = .returned (.int .u32 (r2 : Int)) ∧ w2 = w' := fun w' => leftTurns a 13 r2 ha (by omega) hr2 w'
          have t3 : ∀ w', Calls Tryd.prog 127 #[.int .u32 (a : Int), .int .u64 22] w' fun e w2 => e = .returned (.int .u32 (r4 : Int)) ∧ w2 = w' := fun w' => leftTurns a 22 r4 ha (by omega) hr4 w'
          have b1 : bits .xor .u32 (r1 : Int) (r2 : Int) = (r3 : Int) := by rw [u32_xor_nat _ _ (by rw [hr1]; exact rotr_lt _ _ ha) (by rw [hr2]; exact rotr_lt _ _ ha), hr3]
          have b2 : bits .xor .u32 (r3 : Int) (r4 : Int) = (S0 : Int) := by
            rw [u32_xor_nat _ _ (by rw [hr3, hr1, hr2]; exact xor_lt (rotr_lt _ _ ha) (rotr_lt _ _ ha)) (by rw [hr4]; exact rotr_lt _ _ ha), hS0, hr4, hr3, hr1, hr2]; rfl
          obtain ⟨p1, hp1⟩ : ∃ p, p = a &&& b := ⟨_, rfl⟩
          obtain ⟨p2, hp2⟩ : ∃ p, p = a &&& c := ⟨_, rfl⟩
          obtain ⟨p3, hp3⟩ : ∃ p, p = p1 ^^^ p2 := ⟨_, rfl⟩
          obtain ⟨p4, hp4⟩ : ∃ p, p = b &&& c := ⟨_, rfl⟩
          obtain ⟨mj, hmj⟩ : ∃ p, p = maj a b c := ⟨_, rfl⟩
          have q1 : bits .and .u32 (a : Int) (b : Int) = (p1 : Int) := by rw [u32_and_nat _ _ ha hb, hp1]
          have q2 : bits .and .u32 (a : Int) (c : Int) = (p2 : Int) := by rw [u32_and_nat _ _ ha hc, hp2]
          have q3 : bits .xor .u32 (p1 : Int) (p2 : Int) = (p3 : Int) := by rw [u32_xor_nat _ _ (by rw [hp1]; exact and_lt ha) (by rw [hp2]; exact and_lt ha), hp3]
          have q4 : bits .and .u32 (b : Int) (c : Int) = (p4 : Int) := by rw [u32_and_nat _ _ hb hc, hp4]
          have q5 : bits .xor .u32 (p3 : Int) (p4 : Int) = (mj : Int) := by
            rw [u32_xor_nat _ _ (by rw [hp3, hp1, hp2]; exact xor_lt (and_lt ha) (and_lt ha)) (by rw [hp4]; exact and_lt hb), hmj, hp4, hp3, hp2, hp1]; rfl
          obtain ⟨u, hu⟩ : ∃ u, u = uOf ⟨a, b, c, d, e, f, g, h⟩ := ⟨_, rfl⟩
          have q6 : ((S0 : Int) + mj) % 4294967296 = (u : Int) := by rw [hu, hS0, hmj]; unfold uOf add32; dsimp only; omega
          obtain ⟨n1, hn1⟩ : ∃ n, n = add32 t u := ⟨_, rfl⟩
          obtain ⟨n2, hn2⟩ : ∃ n, n = add32 d t := ⟨_, rfl⟩
          have q7 : ((t : Int) + u) % 4294967296 = (n1 : Int) := by rw [hn1]; unfold add32; omega
          have q8 : ((d : Int) + t) % 4294967296 = (n2 : Int) := by rw [hn2]; unfold add32; omega
          have hV : runV ws ss v0 (i + 1) = ⟨n1, a, b, c, n2, e, f, g⟩ := by rw [hV0.out, hn1, hn2, hu, ht]; rfl
          replace hV := Lib.hid hV
          clear hr1 hr2 hr3 hr4 hS0 hp1 hp2 hp3 hp4 hmj hu hn1 hn2 ht
          replace t1 := Lib.hid t1; replace t2 := Lib.hid t2; replace t3 := Lib.hid t3
          clear ha hb hc hd he hf hg hh
          go_wp2_with (first | (go_at_call 127; (with_reducible refine (t1.out _).mono ?_); rintro e w1 ⟨rfl, rfl⟩) | (go_at_call 127; (with_reducible refine (t2.out _).mono ?_); rintro e w1 ⟨rfl, rfl⟩) | (go_at_call 127; (with_reducible refine (t3.out _).mono ?_); rintro e w1 ⟨rfl, rfl⟩))
          go_roundg K
          case measure => omega
          case rel =>
            refine ⟨i + 1, by go_num, by have := hi2.out; omega, ?_⟩
            rw [hV.out]
            exact ⟨by first | rfl | rw [q7], rfl, rfl, rfl, by first | rfl | rw [q8], rfl, rfl, rfl, hM.out⟩
    · obtain ⟨K, rfl⟩ : ∃ K : Nat, gk = K + 1 := ⟨gk - 1, by omega⟩
      have i0 : (0 : Int) ≤ (i : Int) := by omega
      have i64 : (i : Int) < 64 := by omega
      by_cases h16 : i < 16
      · have i1 : (i : Int) < 16 := by omega
        obtain ⟨m, hm⟩ : ∃ m : Nat, m = 4 * i := ⟨_, rfl⟩
        have hm4 : 4 * (i : Int) = (m : Int) := by omega
        have z0 : (0 : Int) ≤ (m : Int) := by omega
        have z1 : (0 : Int) ≤ (m : Int) + 1 := by omega
        have z2 : (0 : Int) ≤ (m : Int) + 2 := by omega
        have z3 : (0 : Int) ≤ (m : Int) + 3 := by omega
        have hs2 := hsz.out
        have l0 : (m : Int) < s.size := by omega
        have l1 : (m : Int) + 1 < s.size := by omega
        have l2 : (m : Int) + 2 < s.size := by omega
        have l3 : (m : Int) + 3 < s.size := by omega
        have v0 : IntKind.i64.wrap (m : Int) = (m : Int) := by rw [IntKind.wrap_i64]; omega
        have v1 : IntKind.i64.wrap ((m : Int) + 1) = (m : Int) + 1 := by rw [IntKind.wrap_i64]; omega
        have v2 : IntKind.i64.wrap ((m : Int) + 2) = (m : Int) + 2 := by rw [IntKind.wrap_i64]; omega
        have v3 : IntKind.i64.wrap ((m : Int) + 3) = (m : Int) + 3 := by rw [IntKind.wrap_i64]; omega
        have g0 : ∀ h, ((s[m]'h).toNat : Int) = ((byteAt s m : Nat) : Int) := fun h => by rw [byteAt_eq s m h]
        have g1 : ∀ h, ((s[m + 1]'h).toNat : Int) = ((byteAt s (m + 1) : Nat) : Int) := fun h => by rw [byteAt_eq s (m + 1) h]
        have g2 : ∀ h, ((s[m + 2]'h).toNat : Int) = ((byteAt s (m + 2) : Nat) : Int) := fun h => by rw [byteAt_eq s (m + 2) h]
        have g3 : ∀ h, ((s[m + 3]'h).toNat : Int) = ((byteAt s (m + 3) : Nat) : Int) := fun h => by rw [byteAt_eq s (m + 3) h]
        obtain ⟨b0, hb0⟩ : ∃ b, b = byteAt s m := ⟨_, rfl⟩
        obtain ⟨b1, hb1⟩ : ∃ b, b = byteAt s (m + 1) := ⟨_, rfl⟩
        obtain ⟨b2, hb2⟩ : ∃ b, b = byteAt s (m + 2) := ⟨_, rfl⟩
        obtain ⟨b3, hb3⟩ : ∃ b, b = byteAt s (m + 3) := ⟨_, rfl⟩
        have q0 := byteAt_lt s m
        have q1 := byteAt_lt s (m + 1)
        have q2 := byteAt_lt s (m + 2)
        have q3 := byteAt_lt s (m + 3)
        rw [← hb0] at g0 q0; rw [← hb1] at g1 q1; rw [← hb2] at g2 q2; rw [← hb3] at g3 q3
        obtain ⟨q, hq⟩ : ∃ q, q = b0 * 16777216 + b1 * 65536 + b2 * 256 + b3 := ⟨_, rfl⟩
        have hqw : sprL s (i + 1) = (sprL s i).set i q := by
          show (sprL s i).set i (if i < 16 then beWord s (4 * i) else nextW (sprL s i) i) = _
          rw [if_pos (by omega), beWord, ← hm, ← hb0, ← hb1, ← hb2, ← hb3, hq]
        have c1 := hM.drew.ws.cell (i := i) (by rw [sprL_len]; omega)
        have f1 := hM.drew.ws.free i
        have hP := hM.drew.put i q
        rw [← hqw] at hP
        have hi2 : i + (K + 1) = 64 := hi
        replace hi2 := Lib.hid hi2
        replace hP := Lib.hid hP
        replace hM := Lib.hid hM
        replace hq := Lib.hid hq
        have q0' := Lib.hid q0; have q1' := Lib.hid q1; have q2' := Lib.hid q2; have q3' := Lib.hid q3
        clear hb0 hb1 hb2 hb3 q0 q1 q2 q3 hqw hs2 hi h0 h16
        replace hm := Lib.hid hm
        go_upto_region 6 with fail
        refine wp_region_still_tail 32 (by kernel_rfl) (by kernel_rfl) ?_
        simp only [List.take_succ_cons, List.take_zero, List.drop_succ_cons, List.drop_zero]
        change wpStill _ _ wr.drew _ _ _
        repeat still_step
        try refine wpStill_nil ?_
        change wpList _ _ _ _ _ wr.drew
        generalize wr.drew = wd at *
        go_wp2
        go_roundg K
        case measure => omega
        case rel =>
          refine ⟨i + 1, by go_num, by have := hi2.out; omega, ?_⟩
          refine Eq.mp (congrArg (fun x => RMix w (wd.setCell ⟨w.heap.size + 1 + 1, i, none⟩ (.int .u32 x)) G hs (sprL s (i + 1)) ss) (?_ : (q : Int) = _)) hP.out
          have := hq.out; have := q0'.out; have := q1'.out; have := q2'.out; have := q3'.out
          (try simp only [IntKind.wrap_u32])
          omega
      · have i1 : ¬ ((i : Int) < 16) := by omega
        have hsm := sprL_small s i
        have hlen := sprL_len s i
        obtain ⟨k15, h15⟩ : ∃ k, k = i - 15 := ⟨_, rfl⟩
        have e15 : IntKind.i64.wrap ((i : Int) - 15) = (k15 : Int) := by rw [IntKind.wrap_i64]; omega
        have p15a : (0 : Int) ≤ (k15 : Int) := by omega
        have p15b : (k15 : Int) < 64 := by omega
        have c15 := hM.ws.cell (i := k15) (by rw [hlen]; omega)
        obtain ⟨y15, hy15⟩ : ∃ y, (sprL s i).getD k15 0 = y := ⟨_, rfl⟩
        rw [hy15] at c15
        obtain ⟨k2, h2⟩ : ∃ k, k = i - 2 := ⟨_, rfl⟩
        have e2 : IntKind.i64.wrap ((i : Int) - 2) = (k2 : Int) := by rw [IntKind.wrap_i64]; omega
        have p2a : (0 : Int) ≤ (k2 : Int) := by omega
        have p2b : (k2 : Int) < 64 := by omega
        have c2 := hM.ws.cell (i := k2) (by rw [hlen]; omega)
        obtain ⟨y2, hy2⟩ : ∃ y, (sprL s i).getD k2 0 = y := ⟨_, rfl⟩
        rw [hy2] at c2
        obtain ⟨k16, h16'⟩ : ∃ k, k = i - 16 := ⟨_, rfl⟩
        have e16 : IntKind.i64.wrap ((i : Int) - 16) = (k16 : Int) := by rw [IntKind.wrap_i64]; omega
        have p16a : (0 : Int) ≤ (k16 : Int) := by omega
        have p16b : (k16 : Int) < 64 := by omega
        have c16 := hM.ws.cell (i := k16) (by rw [hlen]; omega)
        obtain ⟨y16, hy16⟩ : ∃ y, (sprL s i).getD k16 0 = y := ⟨_, rfl⟩
        rw [hy16] at c16
        obtain ⟨k7, h7⟩ : ∃ k, k = i - 7 := ⟨_, rfl⟩
        have e7 : IntKind.i64.wrap ((i : Int) - 7) = (k7 : Int) := by rw [IntKind.wrap_i64]; omega
        have p7a : (0 : Int) ≤ (k7 : Int) := by omega
        have p7b : (k7 : Int) < 64 := by omega
        have c7 := hM.ws.cell (i := k7) (by rw [hlen]; omega)
        obtain ⟨y7, hy7⟩ : ∃ y, (sprL s i).getD k7 0 = y := ⟨_, rfl⟩
        rw [hy7] at c7
        have x15 := hsm k15
        have x2 := hsm k2
        rw [hy15] at x15; rw [hy2] at x2
        obtain ⟨lo, hlo⟩ : ∃ l, l = low0 y15 := ⟨_, rfl⟩
        obtain ⟨hi0, hhi⟩ : ∃ l, l = low1 y2 := ⟨_, rfl⟩
        obtain ⟨nx, hnx⟩ : ∃ l, l = nextW (sprL s i) i := ⟨_, rfl⟩
        have hnx2 : nx = add32 (add32 (add32 y16 lo) y7) hi0 := by rw [hnx, nextW, ← h16', ← h15, ← h7, ← h2, hy16, hy15, hy7, hy2, hlo, hhi]
        have hqw : sprL s (i + 1) = (sprL s i).set i nx := by
          show (sprL s i).set i (if i < 16 then beWord s (4 * i) else nextW (sprL s i) i) = _
          rw [if_neg (by omega), ← hnx]
        have hi2 : i + (K + 1) = 64 := hi
        obtain ⟨l, hl⟩ : ∃ l, l = sprL s i := ⟨_, rfl⟩
        rw [← hl] at hM hqw hlen
        replace hi2 := Lib.hid hi2
        replace hM := Lib.hid hM
        replace hnx2 := Lib.hid hnx2
        replace hqw := Lib.hid hqw
        replace hlen := Lib.hid hlen
        clear hnx hy15 hy2 hy16 hy7 hsm hi h0 h16 hl
        replace h15 := Lib.hid h15; replace h2 := Lib.hid h2; replace h16' := Lib.hid h16'; replace h7 := Lib.hid h7
        go_upto_region 7 with fail
        go_cut [9, 10] from 23 to 102 (fun p q wx => p = .int .u32 (y15 : Int) ∧ q = .int .u32 (y2 : Int) ∧ wx = wr.drew)
        case first =>
          refine wp_region_still_lit (by kernel_rfl) (by kernel_rfl) ?_
          change wpStill _ _ wr.drew _ _ _
          repeat still_step
          refine wpStill_nil ?_
          go_wp2_with fail
          go_meet
          exact ⟨rfl, rfl, rfl⟩
        case rest =>
        obtain ⟨rfl, rfl, rfl⟩ := hcut
        obtain ⟨r1, hr1⟩ : ∃ r, r = rotr y15 7 := ⟨_, rfl⟩
        obtain ⟨r2, hr2⟩ : ∃ r, r = rotr y15 18 := ⟨_, rfl⟩
        obtain ⟨r3, hr3⟩ : ∃ r, r = r1 ^^^ r2 := ⟨_, rfl⟩
        obtain ⟨r4, hr4⟩ : ∃ r, r = y15 / 8 := ⟨_, rfl⟩
        have t1 : ∀ w', Calls Tryd.prog 127 #[.int .u32 (y15 : Int), .int .u64 7] w' fun e w2 => e = .returned (.int .u32 (r1 : Int)) ∧ w2 = w' := fun w' => leftTurns y15 7 r1 x15 (by omega) hr1 w'
        have t2 : ∀ w', Calls Tryd.prog 127 #[.int .u32 (y15 : Int), .int .u64 18] w' fun e w2 => e = .returned (.int .u32 (r2 : Int)) ∧ w2 = w' := fun w' => leftTurns y15 18 r2 x15 (by omega) hr2 w'
        have b1 : bits .xor .u32 (r1 : Int) (r2 : Int) = (r3 : Int) := by rw [u32_xor_nat _ _ (by rw [hr1]; exact rotr_lt _ _ x15) (by rw [hr2]; exact rotr_lt _ _ x15), hr3]
        have b2 : (y15 : Int) / 8 = (r4 : Int) := by rw [hr4]; omega
        have b2' : (r4 : Int) % 4294967296 = (r4 : Int) := by omega
        have b3 : bits .xor .u32 (r3 : Int) (r4 : Int) = (lo : Int) := by
          rw [u32_xor_nat _ _ (by rw [hr3, hr1, hr2]; exact xor_lt (rotr_lt _ _ x15) (rotr_lt _ _ x15)) (by omega), hlo, hr4, hr3, hr1, hr2]; rfl
        obtain ⟨s1, hs1⟩ : ∃ r, r = rotr y2 17 := ⟨_, rfl⟩
        obtain ⟨s2, hs2⟩ : ∃ r, r = rotr y2 19 := ⟨_, rfl⟩
        obtain ⟨s3, hs3⟩ : ∃ r, r = s1 ^^^ s2 := ⟨_, rfl⟩
        obtain ⟨s4, hs4⟩ : ∃ r, r = y2 / 1024 := ⟨_, rfl⟩
        have t3 : ∀ w', Calls Tryd.prog 127 #[.int .u32 (y2 : Int), .int .u64 17] w' fun e w2 => e = .returned (.int .u32 (s1 : Int)) ∧ w2 = w' := fun w' => leftTurns y2 17 s1 x2 (by omega) hs1 w'
        have t4 : ∀ w', Calls Tryd.prog 127 #[.int .u32 (y2 : Int), .int .u64 19] w' fun e w2 => e = .returned (.int .u32 (s2 : Int)) ∧ w2 = w' := fun w' => leftTurns y2 19 s2 x2 (by omega) hs2 w'
        have d1 : bits .xor .u32 (s1 : Int) (s2 : Int) = (s3 : Int) := by rw [u32_xor_nat _ _ (by rw [hs1]; exact rotr_lt _ _ x2) (by rw [hs2]; exact rotr_lt _ _ x2), hs3]
        have d2 : (y2 : Int) / 1024 = (s4 : Int) := by rw [hs4]; omega
        have d2' : (s4 : Int) % 4294967296 = (s4 : Int) := by omega
        have d3 : bits .xor .u32 (s3 : Int) (s4 : Int) = (hi0 : Int) := by
          rw [u32_xor_nat _ _ (by rw [hs3, hs1, hs2]; exact xor_lt (rotr_lt _ _ x2) (rotr_lt _ _ x2)) (by omega), hhi, hs4, hs3, hs1, hs2]; rfl
        clear hr1 hr2 hr3 hr4 hs1 hs2 hs3 hs4 hlo hhi x15 x2
        replace t1 := Lib.hid t1; replace t2 := Lib.hid t2; replace t3 := Lib.hid t3; replace t4 := Lib.hid t4
        have hMd := hM.out.drew.drew
        have ci := hMd.ws.cell (i := i) (by rw [hlen.out]; omega)
        have fi := hMd.ws.free i
        have hP := hMd.put i nx
        rw [← hqw.out] at hP
        replace hP := Lib.hid hP
        replace hMd := Lib.hid hMd
        go_upto_region 8 with fail
        refine wp_region_still_tail 32 (by kernel_rfl) (by kernel_rfl) ?_
        simp only [List.take_succ_cons, List.take_zero, List.drop_succ_cons, List.drop_zero]
        change wpStill _ _ wr.drew.drew _ _ _
        repeat still_step
        still_call (t1.out _)
        repeat still_step
        still_call (t2.out _)
        repeat still_step
        still_call (t3.out _)
        repeat still_step
        still_call (t4.out _)
        repeat still_step
        try refine wpStill_nil ?_
        change wpList _ _ _ _ _ wr.drew.drew
        clear hM
        generalize wr.drew.drew = wd at *
        go_wp2
        go_roundg K
        case measure => omega
        case rel =>
          refine ⟨i + 1, by go_num, by have := hi2.out; omega, ?_⟩
          first
            | exact hP.out
            | (refine Eq.mp (congrArg (fun x => RMix w (wd.setCell ⟨w.heap.size + 1 + 1, i, none⟩ (.int .u32 x)) G hs (sprL s (i + 1)) ss) (?_ : (nx : Int) = _)) hP.out
               have := hnx2.out
               unfold add32 at this
               omega)
end Go.Proofs.YtplfbpihhcnnmaaDoor.sha
