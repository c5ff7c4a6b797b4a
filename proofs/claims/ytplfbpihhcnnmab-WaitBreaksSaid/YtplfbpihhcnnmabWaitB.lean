/- The law WaitBreaks: when the victim waits no more, its circle is broken. No condition but the slices' cells, and how great they may be. -/
import Derived.Test.YtplfbpihhcnnmabWait9
namespace Go.Proofs.Ytplfbpihhcnnmab.wait
open Go.RowKit
open Go.Sort
attribute [local go_sem ↓] Go.wp_at_zero Go.wp_at_succ
set_option linter.unusedVariables false
set_option maxRecDepth 100000

/-- one act of a law's list -/
theorem act_at {w : World} {a : Option Addr} {len : Nat} (h : SliceArg w a len 2 (fun j v => match j with | 0 => ∃ x, v = .int .i64 x ∧ (Lit.int .i64 x).wf = true | 1 => ∃ sa sl sc, v = .slice sa sl sc ∧ SliceArg w sa sl 1 (fun _ v => ∃ x, v = .int .i64 x ∧ (Lit.int .i64 x).wf = true) ∧ sl * Try.prog.bytesOf 3 ≤ reachBytes | _ => False)) {i : Nat} (hi : i < len) :
    ∃ b o who sa sl sc zs, a = some ⟨b, o, none⟩ ∧ b < w.heap.size ∧ w.cell? ⟨b, o + i * 2, none⟩ = some (.int .i64 who) ∧ w.cell? ⟨b, o + i * 2 + 1, none⟩ = some (.slice sa sl sc) ∧ List.length (α := Int) zs = sl ∧ Sl w (.slice sa sl sc) sl (zs.map (Value.int .i64)) ∧ sl * 8 ≤ 140737488355328 := by
  obtain ⟨_, h2⟩ := h
  obtain ⟨b, o, rfl, hb, hc⟩ := h2.resolve_left (by omega)
  obtain ⟨v0, c0, x0, rfl, _⟩ := hc i hi 0 (by omega)
  obtain ⟨v1, c1, sa, sl, sc, rfl, hs, hl⟩ := hc i hi 1 (by omega)
  have h8 : Try.prog.bytesOf 3 = 8 := by kernel_rfl
  rw [h8] at hl
  have hr := reach_lt
  obtain ⟨zs, hz, hsl⟩ := ints_of (cap := sc) hs (by omega)
  exact ⟨b, o, x0, sa, sl, sc, zs, rfl, hb, by simpa using c0, c1, hz, hsl, by omega⟩
set_option maxHeartbeats 4000000 in
theorem waitBreaks_walk (a0 : Option Addr) (len0 cap0 : Nat) (a1 : Int) (a2 : Option Addr) (len2 cap2 : Nat) (w : World) (w0 : SliceArg w a0 len0 2 (fun j v => match j with | 0 => ∃ x, v = .int .i64 x ∧ (Lit.int .i64 x).wf = true | 1 => ∃ sa sl sc, v = .slice sa sl sc ∧ SliceArg w sa sl 1 (fun _ v => ∃ x, v = .int .i64 x ∧ (Lit.int .i64 x).wf = true) ∧ sl * Try.prog.bytesOf 3 ≤ reachBytes | _ => False)) (z0 : len0 * Try.prog.bytesOf 91 ≤ reachBytes) (w1 : (Lit.int .i64 a1).wf = true) (w2 : SliceArg w a2 len2 1 (fun _ v => ∃ x, v = .int .u64 x ∧ (Lit.int .u64 x).wf = true)) (z2 : len2 * Try.prog.bytesOf 29 ≤ reachBytes) :
    Calls Try.prog 10 #[.slice a0 len0 cap0, .int .i64 a1, .slice a2 len2 cap2] w fun e w' => e = .returned (.bool true) ∧ Below w.heap.size w w' := by
  have h8 : Try.prog.bytesOf 29 = 8 := by kernel_rfl
  rw [h8] at z2
  have hr := reach_lt
  obtain ⟨ages, hal, hages⟩ := ages_of (cap := cap2) w2 (by omega)
  have c0 : ∀ W, Calls Try.prog 45 #[] W fun e w' => ∃ g, e = .returned (.pointer (some ⟨g, 0, none⟩)) ∧ GAt w' g (fun _ => []) ∧ Below W.heap.size W w' ∧ W.heap.size ≤ g := fun W => (new_any W).mono fun e w' ⟨h1, h2, h3⟩ => ⟨_, h1, h2, h3, Nat.le_refl _⟩
  have hb := Below.refl w.heap.size w
  replace c0 := Lib.hid c0; replace hb := Lib.hid hb; replace w0 := Lib.hid w0; replace hal := Lib.hid hal; replace hages := Lib.hid hages
  clear w2 z0 z2 w1 h8 hr
  go_enter Try.func10, Try.ntmps10
  go_wp2_with (go_at_call 45; (with_reducible refine (c0.out _).mono ?_); rintro e w1 ⟨g, rfl, h1, b1, hg⟩; replace hb := Lib.hid (belowCont hb.out b1); clear b1; replace h1 := Lib.hid h1)
  go_loopg [8] (min len0 30) (fun gn s8 wr => ∃ (i : Nat) (ls : Nat → List Nat), s8 = .int .i64 (i : Int) ∧ i + gn = min len0 30 ∧ GAt wr g ls ∧ GOk ls ∧ Below w.heap.size w wr)
  case atStart => exact ⟨0, _, rfl, by omega, h1.out, GOk.nil, hb.out⟩
  case round =>
    clear h1 hb
    obtain ⟨i, ls, rfl, hik, hG, hok, hb⟩ := hrel
    by_cases hi : i < len0 ∧ i < 30
    · obtain ⟨hi0, hi1⟩ := hi
      obtain ⟨K, rfl⟩ : ∃ K : Nat, gk = K + 1 := ⟨gk - 1, by omega⟩
      obtain ⟨b, o, who, sa, sl, sc, zs, rfl, hbl, e0, e1, hzl, hsl, hz8⟩ := act_at w0.out hi0
      have d0 : wr.cell? ⟨b, o + i * 2, none⟩ = some (.int .i64 who) := (hb.cell hbl).trans e0
      have d1 : wr.cell? ⟨b, o + i * 2 + 1, none⟩ = some (.slice sa sl sc) := (hb.cell hbl).trans e1
      have i0 : (0 : Int) ≤ (i : Int) := by omega
      have i1 : (i : Int) < (len0 : Int) := by omega
      have i2 : (i : Int) < 30 := by omega
      subst hzl
      have hset := set_all hG.drew who _ zs ((hsl.below hb).below (Below.refl _ _).drew) hz8
      have hok2 := updI_ok hok who zs
      replace hset := Lib.hid hset; replace hok2 := Lib.hid hok2; replace hb := Lib.hid hb; replace hik := Lib.hid hik
      clear e0 e1 hsl hG hok hbl
      have hsz := hb.out.size
      go_wp2
      go_region_with (go_at_call 47; (with_reducible refine hset.out.mono ?_); rintro e w3 ⟨rfl, h3, k3⟩; replace hb := Lib.hid (hb.out.drew.trans (k3.below (by simpa using hsz) (by intro x hx; simp at hx; subst hx; exact hg))); clear k3; replace h3 := Lib.hid h3)
      all_goals
        go_wp2
        go_roundg K
        case measure => have := hik.out; omega
        case rel => exact ⟨i + 1, _, by go_num, by have := hik.out; omega, h3.out, hok2.out, hb.out⟩
    · have hk0 : gk = 0 := by omega
      subst hk0
      have hcase : ((i : Int) < (len0 : Int) ∧ ¬ (i : Int) < 30) ∨ ¬ (i : Int) < (len0 : Int) := by omega
      have hvi : ∀ W, GAt W g ls → Below w.heap.size w W → Calls Try.prog 49 #[.pointer (some ⟨g, 0, none⟩), .int .i64 a1, .slice a2 len2 cap2] W fun e w' => e = .returned (.int .i64 (vict ages (circI ls a1)).1) ∧ Below W.heap.size W w' := fun W h hb => victim_all h hok a1 _ ages (by have := hages.out.below hb; rwa [hal.out])
      have hwho := vict_who ages (circI ls a1)
      have hlt := circI_lt ls a1
      have hci : circI ls a1 = [] → ∀ W, GAt W g ls → Calls Try.prog 48 #[.pointer (some ⟨g, 0, none⟩), .int .i64 a1] W fun e w' => ∃ ad cp, e = .returned (.slice ad 0 cp) ∧ Below W.heap.size W w' := fun h0 W h => circle_len h hok a1 h0
      generalize (vict ages (circI ls a1)).1 = V at *
      replace hvi := Lib.hid hvi; replace hG := Lib.hid hG; replace hb := Lib.hid hb
      clear hi hik
      rcases hwho with ⟨hC, rfl⟩ | ⟨x, hx, rfl⟩
      · have hci2 := hci hC
        replace hci2 := Lib.hid hci2; replace hok := Lib.hid hok
        clear hci hlt hC
        rcases hcase with ⟨g1, g2⟩ | g1
        all_goals
          go_wp2_with (first
            | (go_at_call 49; (with_reducible refine (hvi.out _ hG.out hb.out).mono ?_); rintro e w3 ⟨rfl, b3⟩; replace hG := Lib.hid (hG.out.below b3); replace hb := Lib.hid (belowCont hb.out b3); clear b3)
            | (go_at_call 46; (with_reducible refine (awake_any _).mono ?_); rintro e w3 ⟨rfl, b3⟩; replace hG := Lib.hid (hG.out.below b3); replace hb := Lib.hid (belowCont hb.out b3); clear b3)
            | (go_at_call 48; (with_reducible refine (hci2.out _ hG.out).mono ?_); rintro e w3 ⟨ad, cp, rfl, b3⟩; replace hG := Lib.hid (hG.out.below b3); replace hb := Lib.hid (belowCont hb.out b3); clear b3))
          go_ret
          exact ⟨rfl, hb.out⟩
      · have hx16 := hlt x hx
        have hcut := circI_cut ls hok x hx16
        have hok2 := updI_ok hok (x : Int) []
        have hset : ∀ W, GAt W g ls → Calls Try.prog 47 #[.pointer (some ⟨g, 0, none⟩), .int .i64 (x : Int), .slice none 0 0] W fun e w' => e = .returned (.tuple #[]) ∧ GAt w' g (updI ls (x : Int) []) ∧ Keeps [g] W w' := fun W h => set_all h _ _ [] (Sl.nil W) (by decide)
        generalize updI ls (x : Int) [] = ls2 at *
        have hcl : ∀ W, GAt W g ls2 → Calls Try.prog 48 #[.pointer (some ⟨g, 0, none⟩), .int .i64 (x : Int)] W fun e w' => ∃ ad cp, e = .returned (.slice ad 0 cp) ∧ Below W.heap.size W w' := fun W h => circle_len h hok2 _ hcut
        have hv2 : ∀ W, GAt W g ls2 → Below w.heap.size w W → Calls Try.prog 49 #[.pointer (some ⟨g, 0, none⟩), .int .i64 (x : Int), .slice a2 len2 cap2] W fun e w' => e = .returned (.int .i64 (-1)) ∧ Below W.heap.size W w' := fun W h hb => by
          have := victim_all h hok2 (x : Int) _ ages (by have := hages.out.below hb; rw [← hal.out] at this; exact this)
          rw [hcut] at this
          rw [hal.out] at this
          exact this
        have x0 : ¬ (x : Int) < 0 := by omega
        have x1 : (x : Int) < 16 := by omega
        replace hset := Lib.hid hset; replace hcl := Lib.hid hcl; replace hv2 := Lib.hid hv2; replace hok := Lib.hid hok
        clear hci hlt hx hcut hok2
        rcases hcase with ⟨g1, g2⟩ | g1
        all_goals
          go_wp2_with (first
            | (go_at_call 49; (with_reducible refine (hvi.out _ hG.out hb.out).mono ?_); rintro e w3 ⟨rfl, b3⟩; replace hG := Lib.hid (hG.out.below b3); replace hb := Lib.hid (belowCont hb.out b3); clear b3 hvi)
            | (go_at_call 47; (with_reducible refine (hset.out _ hG.out).mono ?_); rintro e w3 ⟨rfl, h3, k3⟩; replace hb := Lib.hid (hb.out.trans (k3.below hb.out.size (by intro x hx; simp at hx; subst hx; exact hg))); clear k3 hG; replace h3 := Lib.hid h3)
            | (go_at_call 46; (with_reducible refine (awake_any _).mono ?_); rintro e w3 ⟨rfl, b3⟩; replace h3 := Lib.hid (h3.out.below b3); replace hb := Lib.hid (belowCont hb.out b3); clear b3)
            | (go_at_call 48; (with_reducible refine (hcl.out _ h3.out).mono ?_); rintro e w4 ⟨ad, cp, rfl, b3⟩; replace h3 := Lib.hid (h3.out.below b3); replace hb := Lib.hid (belowCont hb.out b3); clear b3)
            | (go_at_call 49; (with_reducible refine (hv2.out _ h3.out hb.out).mono ?_); rintro e w4 ⟨rfl, b3⟩; replace hb := Lib.hid (belowCont hb.out b3); clear b3))
          go_ret
          exact ⟨rfl, hb.out⟩
end Go.Proofs.Ytplfbpihhcnnmab.wait
