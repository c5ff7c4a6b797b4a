/- The law WaitCircles: a circle is all that reach one another with one, and its victim is the youngest, of these the last. No condition but the slices' cells, and how great they may be. -/
import Derived.Test.YtmlphodmbkceoabWaitV
import Derived.Test.YtmlphodmbkceoabWaitB
import Derived.Deep.DeepCutAuto
import Derived.StillTailTactics
import Derived.BigRegion
import Derived.Deep.CutBlock
namespace Go.Proofs.Ytmlphodmbkceoab.wait
open Go.RowKit
open Go.Sort
attribute [local go_sem ↓] Go.wp_at_zero Go.wp_at_succ
set_option linter.unusedVariables false
set_option maxRecDepth 100000

set_option maxHeartbeats 16000000 in
theorem waitCircles_walk (a0 : Option Addr) (len0 cap0 : Nat) (a1 : Option Addr) (len1 cap1 : Nat) (w : World) (w0 : SliceArg w a0 len0 2 (fun j v => match j with | 0 => ∃ x, v = .int .i64 x ∧ (Lit.int .i64 x).wf = true | 1 => ∃ sa sl sc, v = .slice sa sl sc ∧ SliceArg w sa sl 1 (fun _ v => ∃ x, v = .int .i64 x ∧ (Lit.int .i64 x).wf = true) ∧ sl * Try.prog.bytesOf 3 ≤ reachBytes | _ => False)) (z0 : len0 * Try.prog.bytesOf 76 ≤ reachBytes) (w1 : SliceArg w a1 len1 1 (fun _ v => ∃ x, v = .int .u64 x ∧ (Lit.int .u64 x).wf = true)) (z1 : len1 * Try.prog.bytesOf 79 ≤ reachBytes) :
    Calls Try.prog 7 #[.slice a0 len0 cap0, .slice a1 len1 cap1] w fun e w' => e = .returned (.bool true) ∧ Below w.heap.size w w' := by
  have h8 : Try.prog.bytesOf 79 = 8 := by kernel_rfl
  rw [h8] at z1
  have hr := reach_lt
  obtain ⟨ages, hal, hages⟩ := ages_of (cap := cap1) w1 (by omega)
  have c0 : ∀ W, Calls Try.prog 29 #[] W fun e w' => ∃ g, e = .returned (.pointer (some ⟨g, 0, none⟩)) ∧ GAt w' g (fun _ => []) ∧ Below W.heap.size W w' ∧ W.heap.size ≤ g := fun W => (new_any W).mono fun e w' ⟨h1, h2, h3⟩ => ⟨_, h1, h2, h3, Nat.le_refl _⟩
  have hb := Below.refl w.heap.size w
  replace c0 := Lib.hid c0; replace hb := Lib.hid hb; replace w0 := Lib.hid w0; replace hal := Lib.hid hal; replace hages := Lib.hid hages
  clear w1 z0 z1 h8 hr
  go_enter Try.func7, Try.ntmps7
  go_upto_region 2 with (first
    | (go_at_call 29; (with_reducible refine (c0.out _).mono ?_); rintro e w1 ⟨g, rfl, h1, b1, hg⟩; have hgl := h1.lt; replace hb := Lib.hid (belowCont hb.out b1); clear b1; replace h1 := Lib.hid h1)
    | (refine wpList_zeroMat rfl rfl ?_)
    | (refine wpList_newMat rfl rfl ?_)
    | (refine wpList_layMat rfl (.tmp 6) (.tmp 27) rfl ff ff rfl rfl ?_; have hQ : MatAt (w1.alloc (.cells (mat ff) 74)) w1.heap.size ff := heap_alloc_new w1 _; have h1 := h1.out.below ((Below.refl _ w1).alloc (Nat.le_refl _) (.cells (mat ff) 74)); have hgq : g ≠ w1.heap.size := Nat.ne_of_lt hgl; have hql := hb.out.size; have hb := hb.out.alloc hb.out.size (.cells (mat ff) 74); clear hgl; replace hQ := Lib.hid hQ; replace h1 := Lib.hid h1; replace hb := Lib.hid hb; generalize w1.heap.size = q at *; generalize w1.alloc (.cells (mat ff) 74) = w2 at *))
  go_upto_block 0 with (go_at_call 30; (with_reducible refine (awake_any _).mono ?_); rintro e w3 ⟨rfl, b3⟩; replace h1 := Lib.hid (h1.out.below b3); replace hQ := Lib.hid (hQ.out.below b3); replace hb := Lib.hid (belowCont hb.out b3); clear b3)
  clear c0
  go_cut [7, 8, 9, 10] (fun s7 s8 s9 s10 wx => ∃ ls : Nat → List Nat, GAt wx g ls ∧ GOk ls ∧ (∀ k, (ls k).Pairwise (· < ·)) ∧ MatAt wx q (edge ls) ∧ Below w.heap.size w wx)
  case first =>
   go_wp2_with (fail)
   go_loopg [7] (min len0 30) (fun gn s7 wr => ∃ (i : Nat) (ls : Nat → List Nat), s7 = .int .i64 (i : Int) ∧ i + gn = min len0 30 ∧ GAt wr g ls ∧ GOk ls ∧ (∀ k, (ls k).Pairwise (· < ·)) ∧ MatAt wr q (edge ls) ∧ Below w.heap.size w wr)
   case atStart =>
    exact ⟨0, fun _ => [], rfl, by omega, h1.out, GOk.nil, fun _ => List.Pairwise.nil, hQ.out.eq (mat_ext fun i j _ _ => by unfold ff edge; simp), hb.out⟩
   case round =>
    clear h1 hb hQ
    obtain ⟨i, ls, rfl, hik, hG, hok, hup, hQ, hb⟩ := hrel
    by_cases hi : i < len0 ∧ i < 30
    · obtain ⟨hi0, hi1⟩ := hi
      obtain ⟨K, rfl⟩ : ∃ K : Nat, gk = K + 1 := ⟨gk - 1, by omega⟩
      obtain ⟨b, o, who, sa, sl, sc, zs, rfl, hbl, e0, e1, hzl, hsl, hz8⟩ := act_at w0.out hi0
      have d0 : wr.cell? ⟨b, o + i * 2, none⟩ = some (.int .i64 who) := (hb.cell hbl).trans e0
      have d1 : wr.cell? ⟨b, o + i * 2 + 1, none⟩ = some (.slice sa sl sc) := (hb.cell hbl).trans e1
      have i0 : (0 : Int) ≤ (i : Int) := by omega
      have i1 : (i : Int) < (len0 : Int) := by omega
      have i2 : (i : Int) < 30 := by omega
      subst hzl
      have hset : ∀ W, GAt W g ls → Below w.heap.size w W → Calls Try.prog 31 #[.pointer (some ⟨g, 0, none⟩), .int .i64 who, .slice sa zs.length sc] W fun e w' => e = .returned (.tuple #[]) ∧ GAt w' g (updI ls who zs) ∧ Keeps [g] W w' := fun W h hb => set_all h who _ zs (hsl.below hb) hz8
      have hok2 := updI_ok hok who zs
      have hup2 : ∀ k, (updI ls who zs k).Pairwise (· < ·) := fun k => by
        unfold updI
        split
        · exact setL_sorted k zs
        · exact hup k
      replace hset := Lib.hid hset; replace hok2 := Lib.hid hok2; replace hup2 := Lib.hid hup2; replace hb := Lib.hid hb; replace hik := Lib.hid hik; replace hG := Lib.hid hG; replace hQ := Lib.hid hQ; replace hok := Lib.hid hok; replace hup := Lib.hid hup
      clear e0 e1 hbl
      have hX : Below wr.heap.size wr (wr.alloc (.cells #[.int .i64 who, .slice sa zs.length sc] 76)) := (Below.refl _ wr).alloc (Nat.le_refl _) _
      have hGX := hG.out.below hX
      have hQX := hQ.out.below hX
      have hbX := hb.out.alloc hb.out.size (.cells #[.int .i64 who, .slice sa zs.length sc] 76)
      have x0 : _ = some (Value.int .i64 who) := newCell wr #[.int .i64 who, .slice sa zs.length sc] 76 0
      have x1 : _ = some (Value.slice sa zs.length sc) := newCell wr #[.int .i64 who, .slice sa zs.length sc] 76 1
      have hgx : wr.heap.size ≠ g := Nat.ne_of_gt hG.out.lt
      have hqx : wr.heap.size ≠ q := Nat.ne_of_gt hQ.out.lt
      have hxl : wr.heap.size < (wr.alloc (.cells #[.int .i64 who, .slice sa zs.length sc] 76)).heap.size := by simp
      have hxw : w.heap.size ≤ wr.heap.size := hb.out.size
      replace hGX := Lib.hid hGX; replace hQX := Lib.hid hQX; replace hbX := Lib.hid hbX; replace x0 := Lib.hid x0; replace x1 := Lib.hid x1
      clear hX hG hQ hb
      go_upto_region 9 with (go_at_call 31; (with_reducible refine (hset.out _ hGX.out hbX.out).mono ?_); rintro e w4 ⟨rfl, hG, k3⟩; have hQ := hQX.out.keep k3 (by simpa using Ne.symm hgq); replace hb := hbX.out.trans (k3.below hbX.out.size (by intro x hx; simp at hx; subst hx; exact hg)); replace x0 := (k3.cell (p := ⟨wr.heap.size, 0, none⟩) hxl (by simpa using hgx)).trans x0.out; replace x1 := (k3.cell (p := ⟨wr.heap.size, 1, none⟩) hxl (by simpa using hgx)).trans x1.out; have hxl4 := Nat.lt_of_lt_of_le hxl k3.size; clear k3 hxl hGX hQX hbX hset; replace hQ := Lib.hid hQ; replace hb := Lib.hid hb; replace hG := Lib.hid hG; generalize wr.heap.size = bx at *)
      clear w0 hages
      by_cases hw : 0 ≤ who ∧ who < 16
      · obtain ⟨v, rfl⟩ : ∃ v : Nat, who = (v : Int) := ⟨who.toNat, by omega⟩
        have hv : v < 16 := by omega
        have v0 : (0 : Int) ≤ (v : Int) := by omega
        have v1 : (v : Int) < 16 := by omega
        have hru := hQ.out.row rfl hv zs
        have hbx : bx ≠ q := hqx
        replace hru := Lib.hid hru; replace hsl := Lib.hid hsl; replace hz8 := Lib.hid hz8
        clear hw
        go_upto_region 11 with (first
          | (refine wpList_zeroRow rfl rfl ?_)
          | (refine wpList_clearRow rfl (.tmp 61) (.tmp 60) rfl hQ.out hv rfl rfl ?_; go_loud (obtain ⟨hQ5, k5⟩ := hru.out; replace hG := hG.out.keepQ hQ.out k5 hgq; replace hb := hb.out.trans (k5.below hb.out.size (by intro x hx; simp at hx; subst hx; exact hql)); replace x0 := (k5.cell (p := ⟨bx, 0, none⟩) hxl4 (by simpa using hbx)).trans x0; replace x1 := (k5.cell (p := ⟨bx, 1, none⟩) hxl4 (by simpa using hbx)).trans x1; have hxl5 := Nat.lt_of_lt_of_le hxl4 k5.size; clear k5 hxl4 hru hQ; replace hQ := Lib.hid hQ5; replace hb := Lib.hid hb; replace hG := Lib.hid hG; clear hQ5; generalize w4.setCells q (v * 16) row0.toList = w5 at *)))
        go_wp2
        go_loopg [9] zs.length (fun gn s9 wx => ∃ p : Nat, s9 = .int .i64 (p : Int) ∧ p + gn = zs.length ∧ GAt wx g (updI ls (v : Int) zs) ∧ MatAt wx q (matP ls v zs p) ∧ wx.cell? ⟨bx, 0, none⟩ = some (.int .i64 (v : Int)) ∧ wx.cell? ⟨bx, 1, none⟩ = some (.slice sa zs.length sc) ∧ bx < wx.heap.size ∧ Below w.heap.size w wx)
        case atStart => exact ⟨0, rfl, by omega, hG.out, hQ.out, x0, x1, hxl5, hb.out⟩
        case round =>
          clear hG hQ hb x0 x1 hxl5
          obtain ⟨p, rfl, hpk, hG, hQ, x0, x1, hxl, hb⟩ := hrel
          by_cases hp : p < zs.length
          · obtain ⟨K2, rfl⟩ : ∃ K : Nat, gk = K + 1 := ⟨gk - 1, by omega⟩
            obtain ⟨z, hz⟩ : ∃ z, zs[p]? = some z := ⟨_, List.getElem?_eq_getElem hp⟩
            obtain ⟨b3, o3, rfl, d0⟩ : ∃ b3 o3, sa = some ⟨b3, o3, none⟩ ∧ wr.cell? ⟨b3, o3 + p, none⟩ = some (.int .i64 z) := by
              obtain ⟨ad, cp, hv2, _, hr2⟩ := hsl.out.below hb
              simp only [Value.slice.injEq, true_and] at hv2
              obtain ⟨b3, o3, hab, hrow⟩ := hr2.resolve_left (by omega)
              exact ⟨b3, o3, hv2.1.trans hab, hrow.2 p _ (by simp [hz])⟩
            have p0 : (0 : Int) ≤ (p : Int) := by omega
            have p1 : (p : Int) < (zs.length : Int) := by omega
            have p3 : IntKind.i64.wrap ((p : Int) + 1) = (p : Int) + 1 := by have := hz8.out; rw [IntKind.wrap_i64]; omega
            have hcs : (z < 0 ∨ (0 ≤ z ∧ ¬ z < 16) ∨ (0 ≤ z ∧ z < 16 ∧ (z != (v : Int)) = false)) ∨ ∃ n : Nat, z = (n : Int) ∧ n < 16 ∧ n ≠ v := by
              by_cases h1 : z < 0
              · exact .inl (.inl h1)
              · by_cases h2 : z < 16
                · by_cases h3 : z = (v : Int)
                  · exact .inl (.inr (.inr ⟨by omega, h2, by simp [h3]⟩))
                  · exact .inr ⟨z.toNat, by omega, by omega, by omega⟩
                · exact .inl (.inr (.inl ⟨by omega, h2⟩))
            rcases hcs with hcs | ⟨n, rfl, hn, hnv⟩
            · have hno : ¬ (0 ≤ z ∧ z < 16 ∧ z ≠ (v : Int)) := by
                rintro ⟨h1, h2, h3⟩
                rcases hcs with h | ⟨_, h⟩ | ⟨_, _, h⟩
                · omega
                · omega
                · simp [h3] at h
              have hQ2 := hQ.eq (matP_skip (ls := ls) (who := v) hz hno).symm
              replace hpk := Lib.hid hpk; replace hG := Lib.hid hG; replace hQ2 := Lib.hid hQ2; replace hb := Lib.hid hb
              clear hQ hp hz
              rcases hcs with g1 | ⟨g1, g2⟩ | ⟨g1, g2, g3⟩
              all_goals
                go_wp2
                go_roundg K2
                case measure => have := hpk.out; omega
                case rel => exact ⟨p + 1, by go_num, by have := hpk.out; omega, hG.out, hQ2.out, x0, x1, hxl, hb.out⟩
            · have c0 := hQ.cell hv hn
              have f0 := hQ.free (v * 16 + n)
              have k5 : Keeps [q] wr (wr.setCell ⟨q, v * 16 + n, none⟩ (.bool true)) := (Keeps.refl _ wr).setCell (p := ⟨q, v * 16 + n, none⟩) (Or.inl (by simp)) _
              have hG2 := hG.keepQ hQ k5 hgq
              have hQ2 := hQ.put hv hn true (matP_lay hv hz hn hnv)
              have hb2 := hb.trans (k5.below hb.size (by intro x hx; simp at hx; subst hx; exact hql))
              have y0 := (k5.cell (p := ⟨bx, 0, none⟩) hxl (by simpa using hbx)).trans x0
              have y1 := (k5.cell (p := ⟨bx, 1, none⟩) hxl (by simpa using hbx)).trans x1
              have hxl2 := Nat.lt_of_lt_of_le hxl k5.size
              have z0 : (0 : Int) ≤ (n : Int) := by omega
              have z1 : (n : Int) < 16 := by omega
              have z2 : ((n : Int) != (v : Int)) = true := by simpa using (by omega : (n : Int) ≠ (v : Int))
              replace hpk := Lib.hid hpk; replace hG2 := Lib.hid hG2; replace hQ2 := Lib.hid hQ2; replace hb2 := Lib.hid hb2; replace y0 := Lib.hid y0; replace y1 := Lib.hid y1
              clear hQ hp hz k5 hb hG
              go_wp2
              go_roundg K2
              case measure => have := hpk.out; omega
              case rel => exact ⟨p + 1, by go_num, by have := hpk.out; omega, hG2.out, hQ2.out, y0.out, y1.out, hxl2, hb2.out⟩
          · have hk0 : gk = 0 := by omega
            subst hk0
            obtain rfl : p = zs.length := by omega
            have hQ2 := hQ.eq (matP_all ls v zs hv)
            have p1 : ¬ (zs.length : Int) < (zs.length : Int) := by omega
            replace hG := Lib.hid hG; replace hQ2 := Lib.hid hQ2; replace hb := Lib.hid hb
            clear hQ hp hpk
            go_wp2
            go_roundg K
            case measure => have := hik.out; omega
            case rel => exact ⟨i + 1, _, by go_num, by have := hik.out; omega, hG.out, hok2.out, hup2.out, hQ2.out, hb.out⟩
      · have hw2 : who < 0 ∨ (¬ who < 0 ∧ (16 : Int) ≤ who) := by omega
        have hG := hG.out; rw [updI_out ls who zs hw] at hG; replace hG := Lib.hid hG
        clear hup2 hok2 hw
        rcases hw2 with g1 | ⟨g1, g2⟩
        all_goals
          go_wp2
          go_roundg K
          case measure => have := hik.out; omega
          case rel => exact ⟨i + 1, ls, by go_num, by have := hik.out; omega, hG.out, hok.out, hup.out, hQ.out, hb.out⟩
    · have hk0 : gk = 0 := by omega
      subst hk0
      have hcase : ((i : Int) < (len0 : Int) ∧ ¬ (i : Int) < 30) ∨ ¬ (i : Int) < (len0 : Int) := by omega
      have hend : ∃ ls : Nat → List Nat, GAt wr g ls ∧ GOk ls ∧ (∀ k, (ls k).Pairwise (· < ·)) ∧ MatAt wr q (edge ls) ∧ Below w.heap.size w wr := ⟨ls, hG, hok, hup, hQ, hb⟩
      replace hend := Lib.hid hend
      clear w0 hi hik hG hok hup hQ hb
      rcases hcase with ⟨g1, g2⟩ | g1
      all_goals
        go_wp2_with (fail)
        go_meet
        case rel => exact hend.out
  case rest =>
      clear h1 hQ hb w0
      obtain ⟨ls, hG, hok, hup, hQ, hb⟩ := hcut
      have hql1 := hQ.lt
      have hgl1 := hG.lt
      replace hG := Lib.hid hG; replace hQ := Lib.hid hQ; replace hb := Lib.hid hb; replace hok := Lib.hid hok; replace hup := Lib.hid hup
      ·
        go_upto_region 18 with (first
          | (refine wpList_loadMat rfl (.tmp 6) rfl hQ.out rfl ?_)
          | (refine wpList_newMat rfl rfl ?_)
          | (refine wpList_layMat rfl (.tmp 11) (.tmp 91) rfl ff (edge ls) rfl rfl ?_; have hF : MatAt (wc.alloc (.cells (mat (edge ls)) 74)) wc.heap.size (edge ls) := heap_alloc_new wc _; have hX : Below wc.heap.size wc (wc.alloc (.cells (mat (edge ls)) 74)) := (Below.refl _ wc).alloc (Nat.le_refl _) _; replace hG := hG.out.below hX; replace hQ := hQ.out.below hX; have hqf : q ≠ wc.heap.size := Nat.ne_of_lt hql1; have hgf : g ≠ wc.heap.size := Nat.ne_of_lt hgl1; have hfl := hb.out.size; replace hb := hb.out.alloc hb.out.size (.cells (mat (edge ls)) 74); clear hX hql1 hgl1; replace hQ := Lib.hid hQ; replace hG := Lib.hid hG; replace hF := Lib.hid hF; replace hb := Lib.hid hb; generalize wc.heap.size = q2 at *; generalize wc.alloc (.cells (mat (edge ls)) 74) = w5 at *))
        go_upto_block 4 with fail
        go_cut [12, 13, 14, 15] (fun s12 s13 s14 s15 wx => s12 = .bool (anyL ls 16) ∧ GAt wx g ls ∧ MatAt wx q (edge ls) ∧ MatAt wx q2 (R ls) ∧ Below w.heap.size w wx)
        case first =>
         go_wp2_with (fail)
         go_loopg [12, 13] 16 (fun gn s12 s13 wr => ∃ k : Nat, s13 = .int .i64 (k : Int) ∧ k + gn = 16 ∧ s12 = .bool (anyAt ls (k * 256)) ∧ GAt wr g ls ∧ MatAt wr q (edge ls) ∧ MatAt wr q2 (war (edge ls) k) ∧ Below w.heap.size w wr)
         case atStart => exact ⟨0, rfl, by omega, rfl, hG.out, hQ.out, hF.out, hb.out⟩
         case round =>
           clear hG hQ hF hb
           obtain ⟨k, rfl, hkk, rfl, hG, hQ, hF, hb⟩ := hrel
           by_cases hk : k < 16
           · obtain ⟨K, rfl⟩ : ∃ K : Nat, gk = K + 1 := ⟨gk - 1, by omega⟩
             have k1 : (k : Int) < 16 := by omega
             have k0 : (0 : Int) ≤ (k : Int) := by omega
             replace hkk := Lib.hid hkk; replace hG := Lib.hid hG; replace hQ := Lib.hid hQ; replace hF := Lib.hid hF; replace hb := Lib.hid hb
             go_wp2
             go_loopg [12, 14] 16 (fun gn s12 s14 wr => ∃ i : Nat, s14 = .int .i64 (i : Int) ∧ i + gn = 16 ∧ s12 = .bool (anyAt ls (k * 256 + i * 16)) ∧ GAt wr g ls ∧ MatAt wr q (edge ls) ∧ MatAt wr q2 (mid (war (edge ls) k) k 16 (i * 16)) ∧ Below w.heap.size w wr)
             case atStart => exact ⟨0, rfl, by omega, rfl, hG.out, hQ.out, hF.out.eq (by rw [Nat.zero_mul, mid_zero]), hb.out⟩
             case round =>
               clear hG hQ hF hb
               obtain ⟨i, rfl, hii, rfl, hG, hQ, hF, hb⟩ := hrel
               by_cases hi : i < 16
               · obtain ⟨K2, rfl⟩ : ∃ K : Nat, gk = K + 1 := ⟨gk - 1, by omega⟩
                 have i1 : (i : Int) < 16 := by omega
                 have i0 : (0 : Int) ≤ (i : Int) := by omega
                 replace hii := Lib.hid hii; replace hG := Lib.hid hG; replace hQ := Lib.hid hQ; replace hF := Lib.hid hF; replace hb := Lib.hid hb
                 go_wp2
                 go_loopg [12, 15] 16 (fun gn s12 s15 wr => ∃ j : Nat, s15 = .int .i64 (j : Int) ∧ j + gn = 16 ∧ s12 = .bool (anyAt ls (k * 256 + i * 16 + j)) ∧ GAt wr g ls ∧ MatAt wr q (edge ls) ∧ MatAt wr q2 (mid (war (edge ls) k) k 16 (i * 16 + j)) ∧ Below w.heap.size w wr)
                 case atStart => exact ⟨0, rfl, by omega, rfl, hG.out, hQ.out, hF.out, hb.out⟩
                 case round =>
                   clear hG hQ hF hb
                   obtain ⟨j, rfl, hjj, rfl, hG, hQ, hF, hb⟩ := hrel
                   by_cases hj : j < 16
                   · obtain ⟨K3, rfl⟩ : ∃ K : Nat, gk = K + 1 := ⟨gk - 1, by omega⟩
                     have j1 : (j : Int) < 16 := by omega
                     have j0 : (0 : Int) ≤ (j : Int) := by omega
                     have hst := mat_step (war (edge ls) k) k i j hi hj
                     have cij := hF.cell hi hj
                     have cik := hF.cell hi hk
                     have ckj := hF.cell hk hj
                     rw [mid_col] at cik
                     rw [mid_row] at ckj
                     have hmm : mid (war (edge ls) k) k 16 (i * 16 + j) i j = war (edge ls) k i j := by unfold mid; rw [if_neg (by omega)]
                     rw [hmm] at cij
                     have fr := hF.free (i * 16 + j)
                     have han := anyAt_next ls k i j hi hj
                     have cm := hQ.cell hi hj
                     generalize anyAt ls (k * 256 + i * 16 + j) = A at *
                     have hA2 : ∃ A2, A2 = anyAt ls (k * 256 + i * 16 + j + 1) := ⟨_, rfl⟩
                     obtain ⟨A2, hA2⟩ := hA2
                     rw [← hA2] at han
                     obtain ⟨E, hE⟩ : ∃ E, edge ls i j = E := ⟨_, rfl⟩
                     rw [hE] at cm han
                     generalize war (edge ls) k i j = B1 at *
                     generalize war (edge ls) k i k = B2 at *
                     generalize war (edge ls) k k j = B3 at *
                     replace hE := Lib.hid hE; replace hst := Lib.hid hst; replace han := Lib.hid han; replace hA2 := Lib.hid hA2; replace hjj := Lib.hid hjj; replace hG := Lib.hid hG; replace hQ := Lib.hid hQ; replace hF := Lib.hid hF; replace hb := Lib.hid hb
                     clear hmm
                     cases B1 with
                     | true =>
                       go_upto_region 27 with (fail)
                       go_region
                       have hF6 := (hF.out.put hi hj true hst.out).drew
                       have k6 : Keeps [q2] wr (wr.setCell ⟨q2, i * 16 + j, none⟩ (.bool true)).drew := ((Keeps.refl [q2] wr).setCell (p := ⟨q2, i * 16 + j, none⟩) (Or.inl (by simp)) _).drew
                       have hQ6 := hQ.out.keep k6 (by simpa using hqf)
                       have hG6 := hG.out.keepQ hF.out k6 hgf
                       have hb6 := hb.out.trans (k6.below hb.out.size (by intro x hx; simp at hx; subst hx; exact hfl))
                       have cm6 := hQ6.cell hi hj
                       replace hF6 := Lib.hid hF6; replace hQ6 := Lib.hid hQ6; replace hG6 := Lib.hid hG6; replace hb6 := Lib.hid hb6; replace hst := Lib.hid hst
                       clear k6 cij cik ckj fr cm hst hF hQ hG hb
                       generalize (wr.setCell ⟨q2, i * 16 + j, none⟩ (.bool true)).drew = w6 at *
                       rw [hE.out] at cm6
                       cases A
                       all_goals
                         go_wp2
                         go_roundg K3
                         case measure => have := hjj.out; omega
                         case rel => exact ⟨j + 1, by go_num, by have := hjj.out; omega, by rw [show k * 256 + i * 16 + (j + 1) = k * 256 + i * 16 + j + 1 from rfl, ← hA2.out, han.out] <;> rfl, hG6.out, hQ6.out, hF6.out, hb6.out⟩
                     | false =>
                       cases B2 with
                       | false =>
                         go_upto_region 27 with (fail)
                         go_region
                         have hF6 := (hF.out.put hi hj false hst.out).drew
                         have k6 : Keeps [q2] wr (wr.setCell ⟨q2, i * 16 + j, none⟩ (.bool false)).drew := ((Keeps.refl [q2] wr).setCell (p := ⟨q2, i * 16 + j, none⟩) (Or.inl (by simp)) _).drew
                         have hQ6 := hQ.out.keep k6 (by simpa using hqf)
                         have hG6 := hG.out.keepQ hF.out k6 hgf
                         have hb6 := hb.out.trans (k6.below hb.out.size (by intro x hx; simp at hx; subst hx; exact hfl))
                         have cm6 := hQ6.cell hi hj
                         replace hF6 := Lib.hid hF6; replace hQ6 := Lib.hid hQ6; replace hG6 := Lib.hid hG6; replace hb6 := Lib.hid hb6; replace hst := Lib.hid hst
                         clear k6 cij cik ckj fr cm hst hF hQ hG hb
                         generalize (wr.setCell ⟨q2, i * 16 + j, none⟩ (.bool false)).drew = w6 at *
                         rw [hE.out] at cm6
                         cases A
                         all_goals
                           go_wp2
                           go_roundg K3
                           case measure => have := hjj.out; omega
                           case rel => exact ⟨j + 1, by go_num, by have := hjj.out; omega, by rw [show k * 256 + i * 16 + (j + 1) = k * 256 + i * 16 + j + 1 from rfl, ← hA2.out, han.out] <;> rfl, hG6.out, hQ6.out, hF6.out, hb6.out⟩
                       | true =>
                         go_upto_region 27 with (fail)
                         go_region
                         have hF6 := (hF.out.put hi hj B3 hst.out).drew
                         have k6 : Keeps [q2] wr (wr.setCell ⟨q2, i * 16 + j, none⟩ (.bool B3)).drew := ((Keeps.refl [q2] wr).setCell (p := ⟨q2, i * 16 + j, none⟩) (Or.inl (by simp)) _).drew
                         have hQ6 := hQ.out.keep k6 (by simpa using hqf)
                         have hG6 := hG.out.keepQ hF.out k6 hgf
                         have hb6 := hb.out.trans (k6.below hb.out.size (by intro x hx; simp at hx; subst hx; exact hfl))
                         have cm6 := hQ6.cell hi hj
                         replace hF6 := Lib.hid hF6; replace hQ6 := Lib.hid hQ6; replace hG6 := Lib.hid hG6; replace hb6 := Lib.hid hb6; replace hst := Lib.hid hst
                         clear k6 cij cik ckj fr cm hst hF hQ hG hb
                         generalize (wr.setCell ⟨q2, i * 16 + j, none⟩ (.bool B3)).drew = w6 at *
                         rw [hE.out] at cm6
                         cases A
                         all_goals
                           go_wp2
                           go_roundg K3
                           case measure => have := hjj.out; omega
                           case rel => exact ⟨j + 1, by go_num, by have := hjj.out; omega, by rw [show k * 256 + i * 16 + (j + 1) = k * 256 + i * 16 + j + 1 from rfl, ← hA2.out, han.out] <;> rfl, hG6.out, hQ6.out, hF6.out, hb6.out⟩
                   · have hk0 : gk = 0 := by omega
                     subst hk0
                     obtain rfl : j = 16 := by omega
                     have j1 : ¬ ((16 : Nat) : Int) < 16 := by omega
                     replace hG := Lib.hid hG; replace hQ := Lib.hid hQ; replace hF := Lib.hid hF; replace hb := Lib.hid hb
                     clear hj hjj
                     go_wp2
                     go_roundg K2
                     case measure => have := hii.out; omega
                     case rel => exact ⟨i + 1, by go_num, by have := hii.out; omega, by rw [show k * 256 + (i + 1) * 16 = k * 256 + i * 16 + 16 by omega], hG.out, hQ.out, by rw [show (i + 1) * 16 = i * 16 + 16 by omega]; exact hF.out, hb.out⟩
               · have hk0 : gk = 0 := by omega
                 subst hk0
                 obtain rfl : i = 16 := by omega
                 have i1 : ¬ ((16 : Nat) : Int) < 16 := by omega
                 have hF2 := hF.eq (f' := war (edge ls) (k + 1)) (mid_full (war (edge ls) k) k)
                 replace hG := Lib.hid hG; replace hQ := Lib.hid hQ; replace hF2 := Lib.hid hF2; replace hb := Lib.hid hb
                 clear hi hii hF
                 go_wp2
                 go_roundg K
                 case measure => have := hkk.out; omega
                 case rel => exact ⟨k + 1, by go_num, by have := hkk.out; omega, by rw [show (k + 1) * 256 = k * 256 + 16 * 16 by omega], hG.out, hQ.out, hF2.out, hb.out⟩
           · have hk0 : gk = 0 := by omega
             subst hk0
             obtain rfl : k = 16 := by omega
             have k1 : ¬ ((16 : Nat) : Int) < 16 := by omega
             have hany := anyUp_all ls hok.out
             rw [show anyUp ls 256 = anyAt ls (16 * 256) from rfl] at hany
             rw [hany]
             have hend : GAt wr g ls ∧ MatAt wr q (edge ls) ∧ MatAt wr q2 (R ls) ∧ Below w.heap.size w wr := ⟨hG, hQ, hF, hb⟩
             replace hend := Lib.hid hend
             clear hkk hk hG hQ hF hb hany
             go_wp2_with (fail)
             go_meet
             case rel => exact ⟨rfl, hend.out⟩
        case rest =>
            clear hG hQ hF hb
            obtain ⟨rfl, hG, hQ, hF, hb⟩ := hcut
            replace hG := Lib.hid hG; replace hQ := Lib.hid hQ; replace hF := Lib.hid hF; replace hb := Lib.hid hb
            go_wp2_with (fail)
            go_loopg [16] 16 (fun gn s16 wr => ∃ who : Nat, s16 = .int .i64 (who : Int) ∧ who + gn = 16 ∧ GAt wr g ls ∧ MatAt wr q (edge ls) ∧ MatAt wr q2 (R ls) ∧ Below w.heap.size w wr)
            case atStart => exact ⟨0, rfl, by omega, hG.out, hQ.out, hF.out, hb.out⟩
            case round =>
              clear hG hQ hF hb
              obtain ⟨who, rfl, hwk, hG, hQ, hF, hb⟩ := hrel
              by_cases hw : who < 16
              · obtain ⟨K, rfl⟩ : ∃ K : Nat, gk = K + 1 := ⟨gk - 1, by omega⟩
                have v1 : (who : Int) < 16 := by omega
                have v0 : (0 : Int) ≤ (who : Int) := by omega
                have hgl := hG.lt
                have hcir := circle_any hG hok.out who hw
                have hCl := circK_len ls who 16
                replace hcir := Lib.hid hcir; replace hwk := Lib.hid hwk; replace hG := Lib.hid hG; replace hQ := Lib.hid hQ; replace hF := Lib.hid hF; replace hb := Lib.hid hb
                go_upto_region 33 with (go_at_call 32; (with_reducible refine hcir.out.mono ?_); rintro e w6 ⟨v, rfl, h6⟩; obtain ⟨ad, cp, rfl, _, hS⟩ := row_gsl h6 (i := 0) rfl hgl (by omega); have b6 := h6.bel; replace hG := Lib.hid (hG.out.below b6); replace hQ := Lib.hid (hQ.out.below b6); replace hF := Lib.hid (hF.out.below b6); replace hb := Lib.hid (belowCont hb.out b6); clear b6 h6 hcir)
                obtain ⟨c, hc⟩ : ∃ c, c = (circK ls who 16).length := ⟨_, rfl⟩
                rw [← hc] at hCl ⊢
                replace hc := Lib.hid hc; replace hCl := Lib.hid hCl; replace hS := Lib.hid hS
                clear v0
                go_wp2
                go_loopg [18, 19, 20, 21] 16 (fun gn s18 s19 s20 s21 wr => ∃ x : Nat, s21 = .int .i64 (x : Int) ∧ x + gn = 16 ∧ s20 = .int .i64 ((circK ls who x).length : Int) ∧ (s18 = .int .i64 (vict ages (circK ls who x)).1 ∧ s19 = .int .u64 ((vict ages (circK ls who x)).2 : Int)) ∧ Below w6.heap.size w6 wr)
                case atStart => exact ⟨0, rfl, by omega, rfl, ⟨rfl, rfl⟩, Below.refl _ _⟩
                case round =>
                  obtain ⟨x, rfl, hxk, rfl, ⟨rfl, rfl⟩, hb6⟩ := hrel
                  by_cases hx : x < 16
                  · obtain ⟨K2, rfl⟩ : ∃ K : Nat, gk = K + 1 := ⟨gk - 1, by omega⟩
                    have x1 : (x : Int) < 16 := by omega
                    have x0 : (0 : Int) ≤ (x : Int) := by omega
                    have v0 : (0 : Int) ≤ (who : Int) := by omega
                    have hF7 := hF.out.below hb6
                    have c1 := hF7.cell hw hw
                    have c2 := hF7.cell hw hx
                    have c3 := hF7.cell hx hw
                    have hsk := skip_on hok.out who x
                    unfold skipB at hsk
                    have hcs := circK_succ ls who x
                    have hvn := vict_next ages ls who x
                    have hcl := circK_len ls who x
                    have hon := fun h => And.intro (circK_at ls who x hx h) (circK_lt ls who x hx h)
                    obtain ⟨O, hO⟩ : ∃ O, O = onC ls who x := ⟨_, rfl⟩
                    rw [← hO] at hsk hcs hvn hon
                    obtain ⟨S2, hS2⟩ : ∃ S, S = vict ages (circK ls who (x + 1)) := ⟨_, rfl⟩
                    rw [← hS2] at hvn
                    obtain ⟨n2, hn2⟩ : ∃ n, n = (circK ls who (x + 1)).length := ⟨_, rfl⟩
                    rw [hcs] at hn2
                    have hn2' : (circK ls who (x + 1)).length = n2 := by rw [hn2, hcs]
                    have hvg := vict_ge ages (circK ls who x)
                    obtain ⟨n, hn⟩ : ∃ n, n = (circK ls who x).length := ⟨_, rfl⟩
                    rw [← hn] at hcl hon ⊢
                    rw [List.length_append, ← hn] at hn2
                    generalize vict ages (circK ls who x) = S1 at *
                    obtain ⟨V0, G0⟩ := S1
                    simp only at hvn hvg ⊢
                    have hcase : (O = false ∧ (R ls who who = false ∨ (R ls who who = true ∧ ((x : Int) != (who : Int)) = true ∧ R ls who x = false) ∨ (R ls who who = true ∧ ((x : Int) != (who : Int)) = true ∧ R ls who x = true ∧ R ls x who = false))) ∨ (O = true ∧ ((R ls who who = true ∧ ((x : Int) != (who : Int)) = false) ∨ (R ls who who = true ∧ ((x : Int) != (who : Int)) = true ∧ R ls who x = true ∧ R ls x who = true))) := by
                      by_cases hxw : x = who
                      · subst hxw
                        cases h1 : R ls x x <;> cases O <;> simp [h1] at hsk ⊢
                      · have hxi : ((x : Int) != (who : Int)) = true := by simpa using (by omega : (x : Int) ≠ (who : Int))
                        rw [hxi]
                        cases h1 : R ls who who <;> cases h2 : R ls who x <;> cases h3 : R ls x who <;> cases O <;> simp [h1, h2, h3, hxw] at hsk ⊢
                    generalize R ls who who = B1 at *
                    generalize R ls who x = B2 at *
                    generalize R ls x who = B3 at *
                    have hxs : ∀ (hn' : n2 = n) (hs' : S2 = (V0, G0)), True := fun _ _ => trivial
                    replace hxk := Lib.hid hxk; replace hb6 := Lib.hid hb6; replace hn2' := Lib.hid hn2'; replace hS2 := Lib.hid hS2; replace hn := Lib.hid hn; replace hO := Lib.hid hO; replace hcl := Lib.hid hcl
                    clear hsk hcs hxs hF7
                    replace hon := Lib.hid hon; replace hvg := Lib.hid hvg; replace hvn := Lib.hid hvn; replace hn2 := Lib.hid hn2
                    go_upto_region 37 with (fail)
                    go_cut [171] (fun s wx => s = .bool (!O) ∧ wr = wx)
                    case first =>
                      rcases hcase with ⟨rfl, hcase⟩ | ⟨rfl, hcase⟩
                      · rcases hcase with rfl | ⟨rfl, g2, rfl⟩ | ⟨rfl, g2, rfl, rfl⟩
                        all_goals
                          go_wp2_with (fail)
                          go_meet
                          case rel => exact ⟨rfl, rfl⟩
                      · rcases hcase with ⟨rfl, g2⟩ | ⟨rfl, g2, rfl, rfl⟩
                        all_goals
                          go_wp2_with (fail)
                          go_meet
                          case rel => exact ⟨rfl, rfl⟩
                    case rest =>
                    clear hcase c1 c2 c3
                    obtain ⟨rfl, hwc⟩ := hcut
                    subst hwc
                    replace hon := hon.out; replace hvg := hvg.out; replace hvn := hvn.out; replace hn2 := hn2.out
                    cases O
                    · simp only [Bool.false_eq_true, if_false, List.length_nil, Nat.add_zero] at hn2 hvn
                      subst hn2 hvn
                      replace hon := Lib.hid hon; replace hvg := Lib.hid hvg
                      go_wp2
                      go_roundg K2
                      case measure => have := hxk.out; omega
                      case rel => exact ⟨x + 1, by go_num, by have := hxk.out; omega, by rw [hn2'.out], by rw [← hS2.out]; exact ⟨rfl, rfl⟩, hb6.out⟩
                    · simp only [if_true, List.length_singleton] at hn2 hvn
                      obtain ⟨ho1, ho2⟩ := hon rfl
                      have hco := hc.out
                      rw [← hco] at ho2
                      have k0 : (0 : Int) ≤ (n : Int) := by omega
                      have k1 : (n : Int) < (c : Int) := by omega
                      obtain ⟨b, o, rfl, d0⟩ : ∃ b o, ad = some ⟨b, o, none⟩ ∧ wr.cell? ⟨b, o + n, none⟩ = some (.int .i64 (x : Int)) := by
                        rcases hS.out with h | ⟨b, o, h1, _, h3⟩
                        · rw [h] at hco; simp at hco; omega
                        · exact ⟨b, o, h1, (hb6.out.cell h3.1).trans (h3.2 n _ (by simp [nums, ho1]))⟩
                      obtain ⟨A0, hA0⟩ : ∃ A, A = ages.getD x 0 := ⟨_, rfl⟩
                      unfold vstep at hvn
                      rw [← hA0] at hvn
                      subst hn2
                      have hdec : (V0 < 0 ∧ S2 = ((x : Int), A0)) ∨ (¬ V0 < 0 ∧ (G0 : Int) ≤ (A0 : Int) ∧ S2 = ((x : Int), A0)) ∨ (¬ V0 < 0 ∧ ¬ (G0 : Int) ≤ (A0 : Int) ∧ S2 = (V0, G0)) := by
                        by_cases hv : V0 = -1
                        · rw [if_pos (.inl hv)] at hvn
                          exact .inl ⟨by omega, hvn⟩
                        · by_cases hg : G0 ≤ A0
                          · rw [if_pos (.inr hg)] at hvn
                            exact .inr (.inl ⟨by omega, by omega, hvn⟩)
                          · rw [if_neg (by simp [hv]; omega)] at hvn
                            exact .inr (.inr ⟨by omega, by omega, hvn⟩)
                      have hage : ((x : Int) < (len1 : Int) ∧ ∃ b2 o2, a1 = some ⟨b2, o2, none⟩ ∧ wr.cell? ⟨b2, o2 + x, none⟩ = some (.int .u64 (A0 : Int))) ∨ (¬ (x : Int) < (len1 : Int) ∧ A0 = 0) := by
                        have hle := hal.out
                        by_cases hxn : x < len1
                        · left
                          refine ⟨by omega, ?_⟩
                          obtain ⟨ad2, cp2, hv2, _, hr2⟩ := hages.out
                          simp only [Value.slice.injEq, true_and] at hv2
                          obtain ⟨b2, o2, hab, hrow⟩ := hr2.resolve_left (by omega)
                          refine ⟨b2, o2, hv2.1.trans hab, ((hb.out.trans (hb6.out.mono hb.out.size)).cell hrow.1).trans (hrow.2 x _ ?_)⟩
                          have : x < ages.length := by omega
                          simp [ageC, this, hA0]
                        · right
                          refine ⟨by omega, ?_⟩
                          rw [hA0]
                          have : ages.length ≤ x := by omega
                          simp [this]
                      replace hA0 := Lib.hid hA0
                      clear hvn hvg ho1 ho2 hco hon
                      have n3 : IntKind.i64.wrap ((n : Int) + 1) = (n : Int) + 1 := by have := hcl.out; rw [IntKind.wrap_i64]; omega
                      rcases hage with ⟨g3, b2, o2, rfl, d1⟩ | ⟨g3, rfl⟩
                      all_goals
                        rcases hdec with ⟨t1, rfl⟩ | ⟨t1, t2, rfl⟩ | ⟨t1, t2, rfl⟩
                        all_goals
                          go_wp2
                          go_roundg K2
                          case measure => have := hxk.out; omega
                          case rel => exact ⟨x + 1, by go_num, by have := hxk.out; omega, by (rw [hn2'.out]) <;> (first | rfl | go_num), by (rw [← hS2.out]) <;> exact ⟨rfl, rfl⟩, hb6.out⟩
                  · have hk0 : gk = 0 := by omega
                    subst hk0
                    obtain rfl : x = 16 := by omega
                    have x1 : ¬ ((16 : Nat) : Int) < 16 := by omega
                    have hG7 := hG.out.below hb6
                    have hQ7 := hQ.out.below hb6
                    have hF7 := hF.out.below hb6
                    have hb7 := belowCont hb.out hb6
                    have hvi : ∀ W, GAt W g ls → Below w.heap.size w W → Calls Try.prog 33 #[.pointer (some ⟨g, 0, none⟩), .int .i64 (who : Int), .slice a1 len1 cap1] W fun e w' => e = .returned (.int .i64 (vict ages (circK ls who 16)).1) ∧ Below W.heap.size W w' := fun W h hb => victim_any h hok.out who hw _ ages (by have := hages.out.below hb; rwa [hal.out])
                    have hfo : ∀ W, GAt W g ls → Calls Try.prog 34 #[.pointer (some ⟨g, 0, none⟩), .int .i64 (who : Int)] W fun e w' => ∃ v', e = .returned v' ∧ Hp W [] [.row 3 1 v' (ls who).length (nums (ls who))] w' := fun W h => for_any h who hw
                    rw [← hc.out]
                    generalize (vict ages (circK ls who 16)).1 = V at *
                    generalize (vict ages (circK ls who 16)).2 = V2 at *
                    have hlw := hok.out.len who
                    have v0 : (0 : Int) ≤ (who : Int) := by omega
                    replace hvi := Lib.hid hvi; replace hfo := Lib.hid hfo; replace hG7 := Lib.hid hG7; replace hQ7 := Lib.hid hQ7; replace hF7 := Lib.hid hF7; replace hb7 := Lib.hid hb7; replace hlw := Lib.hid hlw
                    clear hxk hx hb6 hS
                    go_upto_region 48 with (go_at_call 33; (with_reducible refine (hvi.out _ hG7.out hb7.out).mono ?_); rintro e w8 ⟨rfl, b8⟩; replace hG7 := Lib.hid (hG7.out.below b8); replace hQ7 := Lib.hid (hQ7.out.below b8); replace hF7 := Lib.hid (hF7.out.below b8); replace hb7 := Lib.hid (belowCont hb7.out b8); clear b8)
                    have hgl7 := hG7.out.lt
                    go_upto_region 49 with (go_at_call 34; (with_reducible refine (hfo.out _ hG7.out).mono ?_); rintro e w9 ⟨v', rfl, h9⟩; obtain ⟨ad2, cp2, rfl, _, hS⟩ := row_gsl h9 (i := 0) rfl hgl7 (by have := hlw.out; omega); have b8 := h9.bel; replace hG7 := Lib.hid (hG7.out.below b8); replace hQ7 := Lib.hid (hQ7.out.below b8); replace hF7 := Lib.hid (hF7.out.below b8); replace hb7 := Lib.hid (belowCont hb7.out b8); clear b8 h9 hgl7)
                    clear hc hCl hG hQ hF hb hvi hfo x1
                    have hall := forK_all ls hok.out hup.out who
                    obtain ⟨c2, hc2⟩ : ∃ c, c = (ls who).length := ⟨_, rfl⟩
                    rw [← hc2] at hlw ⊢
                    replace hall := Lib.hid hall; replace hS := Lib.hid hS; replace hc2 := Lib.hid hc2
                    go_wp2
                    go_loopg [24, 25] 16 (fun gn s24 s25 wr => ∃ x : Nat, s25 = .int .i64 (x : Int) ∧ x + gn = 16 ∧ s24 = .int .i64 ((forK ls who x).length : Int) ∧ Below w9.heap.size w9 wr)
                    case atStart => exact ⟨0, rfl, by omega, rfl, Below.refl _ _⟩
                    case round =>
                      obtain ⟨x, rfl, hxk, rfl, hb6⟩ := hrel
                      by_cases hx : x < 16
                      · obtain ⟨K2, rfl⟩ : ∃ K : Nat, gk = K + 1 := ⟨gk - 1, by omega⟩
                        have x1 : (x : Int) < 16 := by omega
                        have x0 : (0 : Int) ≤ (x : Int) := by omega
                        have hQ8 := hQ7.out.below hb6
                        have d1 := hQ8.cell hw hx
                        have hfs := forK_succ ls who x
                        have hon := fun h => And.intro (forK_at ls who x hx h) (forK_lt ls who x hx h)
                        rw [hall.out] at hon
                        have hfl2 : (forK ls who (x + 1)).length = (forK ls who x).length + (if edge ls who x = true then [x] else []).length := by rw [hfs, List.length_append]
                        generalize edge ls who x = E at *
                        obtain ⟨n, hn⟩ : ∃ n, n = (forK ls who x).length := ⟨_, rfl⟩
                        rw [← hn] at hfl2 hon ⊢
                        replace hxk := Lib.hid hxk; replace hb6 := Lib.hid hb6; replace hn := Lib.hid hn
                        clear hfs hQ8
                        cases E with
                        | false =>
                          simp only [Bool.false_eq_true, if_false, List.length_nil, Nat.add_zero] at hfl2
                          replace hon := Lib.hid hon; replace hfl2 := Lib.hid hfl2
                          go_wp2
                          go_roundg K2
                          case measure => have := hxk.out; omega
                          case rel => exact ⟨x + 1, by go_num, by have := hxk.out; omega, by rw [hfl2.out], hb6.out⟩
                        | true =>
                          simp only [if_true, List.length_singleton] at hfl2
                          obtain ⟨ho1, ho2⟩ := hon rfl
                          have hco := hc2.out
                          rw [← hco] at ho2
                          have k0 : (0 : Int) ≤ (n : Int) := by omega
                          have k1 : (n : Int) < (c2 : Int) := by omega
                          have n3 : IntKind.i64.wrap ((n : Int) + 1) = (n : Int) + 1 := by have := hlw.out; rw [IntKind.wrap_i64]; omega
                          obtain ⟨b, o, rfl, d0⟩ : ∃ b o, ad2 = some ⟨b, o, none⟩ ∧ wr.cell? ⟨b, o + n, none⟩ = some (.int .i64 (x : Int)) := by
                            rcases hS.out with h | ⟨b, o, h1, _, h3⟩
                            · rw [h] at hco; simp at hco; omega
                            · exact ⟨b, o, h1, (hb6.out.cell h3.1).trans (h3.2 n _ (by simp [nums, ho1]))⟩
                          replace hfl2 := Lib.hid hfl2
                          clear ho1 ho2 hco hon
                          go_wp2
                          go_roundg K2
                          case measure => have := hxk.out; omega
                          case rel => exact ⟨x + 1, by go_num, by have := hxk.out; omega, by (rw [hfl2.out]) <;> (first | rfl | go_num), hb6.out⟩
                      · have hk0 : gk = 0 := by omega
                        subst hk0
                        obtain rfl : x = 16 := by omega
                        have x1 : ¬ ((16 : Nat) : Int) < 16 := by omega
                        rw [hall.out, ← hc2.out]
                        have hG9 := hG7.out.below hb6
                        have hQ9 := hQ7.out.below hb6
                        have hF9 := hF7.out.below hb6
                        have hb9 := belowCont hb7.out hb6
                        replace hG9 := Lib.hid hG9; replace hQ9 := Lib.hid hQ9; replace hF9 := Lib.hid hF9; replace hb9 := Lib.hid hb9
                        clear hxk hx hb6 hS
                        go_wp2
                        go_roundg K
                        case measure => have := hwk.out; omega
                        case rel => exact ⟨who + 1, by go_num, by have := hwk.out; omega, hG9.out, hQ9.out, hF9.out, hb9.out⟩
              · have hk0 : gk = 0 := by omega
                subst hk0
                obtain rfl : who = 16 := by omega
                have x1 : ¬ ((16 : Nat) : Int) < 16 := by omega
                have hwa := waits_any hG
                replace hwa := Lib.hid hwa; replace hb := Lib.hid hb
                generalize anyL ls 16 = B at *
                have hBB : (B == B) = true := by simp
                clear hwk hw hG hQ hF
                go_wp2_with (go_at_call 35; (with_reducible refine hwa.out.mono ?_); rintro e w8 ⟨rfl, rfl⟩)
                go_ret
                exact ⟨rfl, hb.out⟩
end Go.Proofs.Ytmlphodmbkceoab.wait
