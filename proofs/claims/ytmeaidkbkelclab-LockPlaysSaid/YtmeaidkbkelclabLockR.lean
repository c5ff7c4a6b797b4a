/- The law LockPlays: what it looks at after each taking: right. No condition but the table's own. -/
import Derived.Test.YtmeaidkbkelclabLockQ
import Derived.Deep.DeepCutAuto
import Derived.Deep.CutBlock
import Derived.BigRegion
namespace Go.Proofs.Ytmeaidkbkelclab.lock
open Go.RowKit
attribute [local go_sem ↓] Go.wp_at_zero Go.wp_at_succ
set_option linter.unusedVariables false
set_option maxRecDepth 100000

def HAt (W : World) (q : Nat) (M : Nat → Nat → Nat) : Prop := W.heap[q]? = some (.cells (mat6 M).toArray 46 (0, 0))
section
variable {W W' : World} {q : Nat} {M : Nat → Nat → Nat}
theorem HAt.cell (h : HAt W q M) {x k : Nat} (hx : x < 16) (hk : k < 6) : W.cell? ⟨q, x * 6 + k, none⟩ = some (.int .i64 (M x k : Int)) :=
  (cell_of_row W q (x * 6 + k) _ _ _ h).trans (by rw [List.getElem?_toArray]; exact mat6_at M hx hk)
theorem HAt.free (h : HAt W q M) (k : Nat) : W.frozen? ⟨q, k, none⟩ = false := by unfold HAt at h; simp [World.frozen?, h]
theorem HAt.lt (h : HAt W q M) : q < W.heap.size := block_lt h
theorem HAt.keep (h : HAt W q M) {X : List Nat} (k : Keeps X W W') (hq : q ∉ X) : HAt W' q M := (k.block _ h.lt hq).trans h
theorem HAt.below (h : HAt W q M) (k : Below W.heap.size W W') : HAt W' q M := h.keep (Keeps.ofBelow k []) (by simp)
end
def NamesAt (W : World) (q : Nat) : Prop := q < W.heap.size ∧ ∀ k, k < 6 → W.cell? ⟨q, k, none⟩ = some (.string (str (nameK k)))
theorem NamesAt.below {W W' : World} {q : Nat} (h : NamesAt W q) (k : Below W.heap.size W W') : NamesAt W' q := ⟨Nat.lt_of_lt_of_le h.1 k.size, fun j hj => (k.cell (p := ⟨q, j, none⟩) h.1).trans (h.2 j hj)⟩
/-- a row that was made, as one reads it -/
theorem row_read {w W : World} {e : TypeId} {v : Value} {l : List Nat} (h : Hp w [] [.row e 1 v l.length (ints l)] W) : ∃ ad cp, v = .slice ad l.length cp ∧ (l = [] ∨ ∃ b, ad = some ⟨b, 0, none⟩ ∧ b < W.heap.size ∧ ∀ j x : Nat, l[j]? = some x → W.cell? ⟨b, j, none⟩ = some (.int .i64 (x : Int))) := by
  have hr := h.row (i := 0) rfl
  rcases hr.2 with ⟨rfl, h0⟩ | ⟨q, cap, cur, rfl, _, hq, h1, h2, h3, h4⟩
  · exact ⟨none, 0, by rw [h0], .inl (List.length_eq_zero_iff.1 h0)⟩
  · refine ⟨_, cap, rfl, .inr ⟨q, rfl, block_lt hq, fun j x hx => ?_⟩⟩
    have := World.ownsRow.cells hr (g := q) rfl j (.int .i64 (x : Int)) (by simp [ints, hx])
    rwa [addr_add, Nat.zero_add] at this
theorem colH_len (M : Nat → Nat → Nat) (k : Nat) : colH M k = decide (0 < (whoK (fun x => M x k) 16).length) := by
  have := whoK_any (fun x => M x k) 16
  unfold colH anyH
  rw [Bool.eq_iff_iff, decide_eq_true_eq, this]
set_option maxHeartbeats 8000000 in
theorem right_any {w : World} {g m N th q : Nat} {M : Nat → Nat → Nat} (h : LockAt w g m N (tOf M) (heldOf M) th) (hi : Inv M) (hn : NamesAt w q) :
    Calls Try.prog 17 #[.pointer (some ⟨g, 0, none⟩), .agg (mat6 M).toArray, .slice (some ⟨q, 0, none⟩) 6 6] w fun e w' => e = .returned (.bool true) ∧ Below w.heap.size w w' := by
  have hth := h.thg
  have hms : (mat6 M).toArray.size = 96 := by rw [List.size_toArray, mat6_len]
  have hm1 := mat6_one M
  obtain ⟨L, hL⟩ : ∃ L, L = (mat6 M).toArray := ⟨_, rfl⟩
  rw [← hL] at hms hm1 ⊢
  have hb := Below.refl w.heap.size w
  replace h := Lib.hid h; replace hi := Lib.hid hi; replace hn := Lib.hid hn; replace hth := Lib.hid hth; replace hL := Lib.hid hL; replace hms := Lib.hid hms; replace hm1 := Lib.hid hm1; replace hb := Lib.hid hb
  go_enter Try.func17, Try.ntmps17
  go_upto_region 1 with (fail)
  have hH : HAt (w.alloc (.cells L 46)) w.heap.size M := by unfold HAt; rw [← hL.out]; exact heap_alloc_new w _
  have hX : Below w.heap.size w (w.alloc (.cells L 46)) := (Below.refl _ w).alloc (Nat.le_refl _) _
  replace h := h.out.below hX
  replace hn := hn.out.below hX
  replace hb := hX
  replace hH := Lib.hid hH; replace h := Lib.hid h; replace hn := Lib.hid hn; replace hb := Lib.hid hb
  clear hX hL hms hm1
  generalize w.alloc (.cells L 46) = w1 at *
  go_wp2
  go_loopg [7, 8] 6 (fun gn s7 s8 wr => ∃ k : Nat, s8 = .int .i64 (k : Int) ∧ k + gn = 6 ∧ s7 = .int .i64 (thgK M k : Int) ∧ LockAt wr g m N (tOf M) (heldOf M) th ∧ HAt wr w.heap.size M ∧ NamesAt wr q ∧ Below w.heap.size w wr)
  case atStart => exact ⟨0, rfl, by omega, rfl, h.out, hH.out, hn.out, hb.out⟩
  case round =>
    clear h hH hn hb
    obtain ⟨k, rfl, hkk, rfl, h, hH, hn, hb⟩ := hrel
    by_cases hk : k < 6
    · obtain ⟨K, rfl⟩ : ∃ K : Nat, gk = K + 1 := ⟨gk - 1, by omega⟩
      have k1 : (k : Int) < 6 := by omega
      have k0 : (0 : Int) ≤ (k : Int) := by omega
      have d0 := hn.2 k hk
      have hwho := who_any h (nameK k) (by simp [nameK])
      rw [tOf_name M hk] at hwho
      replace hkk := Lib.hid hkk; replace h := Lib.hid h; replace hH := Lib.hid hH; replace hn := Lib.hid hn; replace hb := Lib.hid hb; replace hwho := Lib.hid hwho
      go_upto_region 6 with (go_at_call 26; (with_reducible refine hwho.out.mono ?_); rintro e w6 ⟨v, rfl, h6⟩; obtain ⟨ad, cp, rfl, hS⟩ := row_read h6; have b6 := h6.bel; replace h := Lib.hid (h.out.below b6); replace hH := Lib.hid (hH.out.below b6); replace hn := Lib.hid (hn.out.below b6); replace hb := Lib.hid (belowCont hb.out b6); clear b6 h6 hwho)
      have hf2 := hi.out.le
      have hol := one_len hi.out k
      have hts := thgK_succ M k
      rw [colH_len] at hts
      have htl := thgK_le M k
      obtain ⟨f, hf⟩ : ∃ f, f = fun x => M x k := ⟨_, rfl⟩
      have hfx : ∀ x, M x k = f x := fun x => by rw [hf]
      rw [← hf] at hS hol hts ⊢
      have hcl := whoK_len f 16
      obtain ⟨c, hc⟩ : ∃ c, c = (whoK f 16).length := ⟨_, rfl⟩
      obtain ⟨O, hO⟩ : ∃ O, O = oneK f 16 := ⟨_, rfl⟩
      rw [← hc] at hcl hol hts ⊢
      rw [← hO] at hol ⊢
      replace hf := Lib.hid hf; replace hc := Lib.hid hc; replace hO := Lib.hid hO; replace hS := Lib.hid hS; replace hol := Lib.hid hol; replace hts := Lib.hid hts; replace htl := Lib.hid htl; replace hcl := Lib.hid hcl; replace hf2 := Lib.hid hf2; replace hfx := Lib.hid hfx
      go_wp2
      go_loopg [11, 12, 13] 16 (fun gn s11 s12 s13 wr => ∃ x : Nat, s13 = .int .i64 (x : Int) ∧ x + gn = 16 ∧ s11 = .int .i64 ((whoK f x).length : Int) ∧ s12 = .bool (oneK f x) ∧ Below w6.heap.size w6 wr)
      case atStart => exact ⟨0, rfl, by omega, rfl, rfl, Below.refl _ _⟩
      case round =>
        obtain ⟨x, rfl, hxk, rfl, rfl, hb6⟩ := hrel
        by_cases hx : x < 16
        · obtain ⟨K2, rfl⟩ : ∃ K : Nat, gk = K + 1 := ⟨gk - 1, by omega⟩
          have x1 : (x : Int) < 16 := by omega
          have x0 : (0 : Int) ≤ (x : Int) := by omega
          have k0' : (0 : Int) ≤ (k : Int) := by omega
          have d1 := (hH.out.below hb6).cell hx hk
          rw [hfx.out] at d1
          have hws := whoK_succ f x
          have hos := oneK_succ f x
          have hat := fun h0 => whoK_at f hx h0
          have hnl := whoK_len f x
          have hle : f x ≤ 2 := by rw [← hfx.out]; exact hf2.out x k
          obtain ⟨n, hn⟩ : ∃ n, n = (whoK f x).length := ⟨_, rfl⟩
          have hwl : (whoK f (x + 1)).length = n + (if f x ≠ 0 then [x] else []).length := by rw [hws, List.length_append, hn]
          rw [← hn] at hat hnl ⊢
          obtain ⟨I, hI⟩ : ∃ I, I = oneK f x := ⟨_, rfl⟩
          rw [← hI] at hos ⊢
          replace hxk := Lib.hid hxk; replace hb6 := Lib.hid hb6; replace hn := Lib.hid hn; replace hI := Lib.hid hI; replace hnl := Lib.hid hnl
          clear hws
          by_cases h0 : f x = 0
          · rw [h0] at d1 hos hwl
            have hos2 : oneK f (x + 1) = I := by rw [hos]; simp
            have hwl2 : (whoK f (x + 1)).length = n := by simpa using hwl
            replace hos2 := Lib.hid hos2; replace hwl2 := Lib.hid hwl2
            clear hat hos hwl h0
            go_wp2
            go_roundg K2
            case measure => have := hxk.out; omega
            case rel => exact ⟨x + 1, by go_num, by have := hxk.out; omega, by rw [hwl2.out], by rw [hos2.out], hb6.out⟩
          · have hat2 := hat h0
            have hnc : n < c := by have := (List.getElem?_eq_some_iff.1 hat2).1; rw [hc.out]; exact this
            have hwl2 : (whoK f (x + 1)).length = n + 1 := by rw [hwl, if_pos h0]; rfl
            have t0 : (((f x : Nat) : Int) == 0) = false := by simpa using h0
            have k2 : (0 : Int) ≤ (n : Int) := by omega
            have k3 : (n : Int) < (c : Int) := by omega
            have n3 : IntKind.i64.wrap ((n : Int) + 1) = (n : Int) + 1 := by have := hnl.out; rw [IntKind.wrap_i64]; omega
            obtain ⟨b, rfl, d2⟩ : ∃ b, ad = some ⟨b, 0, none⟩ ∧ wr.cell? ⟨b, n, none⟩ = some (.int .i64 (x : Int)) := by
              rcases hS.out with h | ⟨b, h1, h2, h3⟩
              · have := hc.out; rw [h] at this; simp at this; omega
              · exact ⟨b, h1, (hb6.out.cell h2).trans (h3 n x hat2)⟩
            have hcase : (I = true ∧ oneK f (x + 1) = true) ∨ (I = false ∧ ((((f x : Nat) : Int) == 2) = true) ∧ oneK f (x + 1) = true) ∨ (I = false ∧ ((((f x : Nat) : Int) == 2) = false) ∧ oneK f (x + 1) = false) := by
              rw [hos]
              cases I with
              | true => left; simp
              | false =>
                right
                by_cases h2 : f x = 2
                · left; simp [h2]
                · right; refine ⟨rfl, ?_, by simp [h2]⟩
                  simpa using (by omega : ((f x : Nat) : Int) ≠ 2)
            replace hwl2 := Lib.hid hwl2
            clear hat hat2 hos hwl h0 hnc hle
            obtain ⟨I2, hI2⟩ : ∃ I2, I2 = oneK f (x + 1) := ⟨_, rfl⟩
            rw [← hI2] at hcase
            replace hI2 := Lib.hid hI2
            generalize f x = F at *
            rcases hcase with ⟨rfl, rfl⟩ | ⟨rfl, t1, rfl⟩ | ⟨rfl, t1, rfl⟩
            all_goals
              go_upto_region 13 with (fail)
              go_region
              go_wp2
              go_roundg K2
              case measure => have := hxk.out; omega
              case rel => exact ⟨x + 1, by go_num, by have := hxk.out; omega, by (rw [hwl2.out]) <;> (first | rfl | go_num), by rw [← hI2.out], hb6.out.drew⟩
        · have hk0 : gk = 0 := by omega
          subst hk0
          obtain rfl : x = 16 := by omega
          have x1 : ¬ ((16 : Nat) : Int) < 16 := by omega
          rw [← hc.out, ← hO.out]
          have h8 := h.out.below hb6
          have hH8 := hH.out.below hb6
          have hn8 := hn.out.below hb6
          have hb8 := belowCont hb.out hb6
          have htk := htl.out
          have n3 : IntKind.i64.wrap ((thgK M k : Int) + 1) = (thgK M k : Int) + 1 := by rw [IntKind.wrap_i64]; omega
          have hcase : (O = false ∨ (O = true ∧ ¬ (1 : Int) < (c : Int))) := by
            cases O with
            | false => exact .inl rfl
            | true => have := hol.out rfl; exact .inr ⟨rfl, by omega⟩
          have hpos : (c = 0 ∧ thgK M (k + 1) = thgK M k) ∨ ((0 : Int) < (c : Int) ∧ thgK M (k + 1) = thgK M k + 1) := by
            have h1 := hts.out
            by_cases hc0 : 0 < c
            · right; rw [if_pos (by simpa using hc0)] at h1; exact ⟨by omega, h1⟩
            · left; rw [if_neg (by simpa using hc0)] at h1; exact ⟨by omega, by omega⟩
          obtain ⟨t2, ht2⟩ : ∃ t, t = thgK M (k + 1) := ⟨_, rfl⟩
          obtain ⟨t3, ht3⟩ : ∃ t, t = thgK M k := ⟨_, rfl⟩
          rw [← ht2, ← ht3] at hpos
          rw [← ht3] at n3 ⊢
          replace h8 := Lib.hid h8; replace hH8 := Lib.hid hH8; replace hn8 := Lib.hid hn8; replace hb8 := Lib.hid hb8; replace ht2 := Lib.hid ht2; replace ht3 := Lib.hid ht3
          clear hxk hx hb6 htk
          rcases hpos with ⟨rfl, rfl⟩ | ⟨g0, rfl⟩
          · have g1 : ¬ (1 : Int) < ((0 : Nat) : Int) := by omega
            have g2 : ¬ (0 : Int) < ((0 : Nat) : Int) := by omega
            clear hcase
            cases O
            all_goals
              go_wp2
              go_roundg K
              case measure => have := hkk.out; omega
              case rel => exact ⟨k + 1, by go_num, by have := hkk.out; omega, by rw [← ht2.out], h8.out, hH8.out, hn8.out, hb8.out⟩
          · rcases hcase with rfl | ⟨rfl, g1⟩
            all_goals
              go_wp2
              go_roundg K
              case measure => have := hkk.out; omega
              case rel => exact ⟨k + 1, by go_num, by have := hkk.out; omega, by (rw [← ht2.out]) <;> (first | rfl | go_num), h8.out, hH8.out, hn8.out, hb8.out⟩
    · have hk0 : gk = 0 := by omega
      subst hk0
      obtain rfl : k = 6 := by omega
      have k1 : ¬ ((6 : Nat) : Int) < 6 := by omega
      rw [← hth.out]
      replace h := Lib.hid h; replace hH := Lib.hid hH; replace hb := Lib.hid hb
      clear hkk hk hn hth hi
      go_wp2
      go_loopg [14] 16 (fun gn s14 wr => ∃ x : Nat, s14 = .int .i64 (x : Int) ∧ x + gn = 16 ∧ LockAt wr g m N (tOf M) (heldOf M) th ∧ HAt wr w.heap.size M ∧ Below w.heap.size w wr)
      case atStart => exact ⟨0, rfl, by omega, h.out, hH.out, hb.out⟩
      case round =>
        clear h hH hb k1
        obtain ⟨x, rfl, hxk, h, hH, hb⟩ := hrel
        by_cases hx : x < 16
        · obtain ⟨K, rfl⟩ : ∃ K : Nat, gk = K + 1 := ⟨gk - 1, by omega⟩
          have x1 : (x : Int) < 16 := by omega
          have x0 : (0 : Int) ≤ (x : Int) := by omega
          have hhe := held_any h x hx
          replace hxk := Lib.hid hxk; replace h := Lib.hid h; replace hH := Lib.hid hH; replace hb := Lib.hid hb; replace hhe := Lib.hid hhe
          go_wp2
          go_loopg [15, 16] 6 (fun gn s15 s16 wr' => ∃ k : Nat, s16 = .int .i64 (k : Int) ∧ k + gn = 6 ∧ s15 = .int .i64 (cntK M x k : Int) ∧ wr' = wr)
          case atStart => exact ⟨0, rfl, by omega, rfl, rfl⟩
          case round =>
            obtain ⟨k, rfl, hkk, rfl, hww⟩ := hrel
            subst hww
            by_cases hk : k < 6
            · obtain ⟨K2, rfl⟩ : ∃ K : Nat, gk = K + 1 := ⟨gk - 1, by omega⟩
              have k1 : (k : Int) < 6 := by omega
              have k0 : (0 : Int) ≤ (k : Int) := by omega
              have d1 := hH.out.cell hx hk
              have hcs := cntK_succ M x k
              have hcl := cntK_le M x k
              obtain ⟨n, hn⟩ : ∃ n, n = cntK M x k := ⟨_, rfl⟩
              rw [← hn] at hcs hcl ⊢
              have n3 : IntKind.i64.wrap ((n : Int) + 1) = (n : Int) + 1 := by rw [IntKind.wrap_i64]; omega
              have hcase : (¬ (0 : Int) < (M x k : Int) ∧ cntK M x (k + 1) = n) ∨ ((0 : Int) < (M x k : Int) ∧ cntK M x (k + 1) = n + 1) := by
                by_cases h0 : M x k = 0
                · rw [if_pos h0] at hcs; exact .inl ⟨by omega, hcs⟩
                · rw [if_neg h0] at hcs; exact .inr ⟨by omega, hcs⟩
              replace hkk := Lib.hid hkk; replace hn := Lib.hid hn
              clear hcs
              rcases hcase with ⟨g1, g2⟩ | ⟨g1, g2⟩
              all_goals
                replace g2 := Lib.hid g2
                go_wp2
                go_roundg K2
                case measure => have := hkk.out; omega
                case rel => exact ⟨k + 1, by go_num, by have := hkk.out; omega, by (rw [g2.out]) <;> (first | rfl | go_num), rfl⟩
            · have hk0 : gk = 0 := by omega
              subst hk0
              obtain rfl : k = 6 := by omega
              have k1 : ¬ ((6 : Nat) : Int) < 6 := by omega
              have hhx : heldOf M x = cntK M x 6 := rfl
              rw [← hhx]
              generalize heldOf M x = H at *
              clear hkk hk hhx
              go_wp2_with (go_at_call 23; (with_reducible refine hhe.out.mono ?_); rintro e w7 ⟨rfl, b7⟩; replace h := Lib.hid (h.out.below b7); replace hH := Lib.hid (hH.out.below b7); replace hb := Lib.hid (belowCont hb.out b7); clear b7 hhe)
              go_roundg K
              case measure => have := hxk.out; omega
              case rel => exact ⟨x + 1, by go_num, by have := hxk.out; omega, h.out, hH.out, hb.out⟩
        · have hk0 : gk = 0 := by omega
          subst hk0
          obtain rfl : x = 16 := by omega
          have x1 : ¬ ((16 : Nat) : Int) < 16 := by omega
          have hle := len_any h
          replace hle := Lib.hid hle; replace hb := Lib.hid hb
          clear hxk hx h hH
          go_wp2_with (go_at_call 27; (with_reducible refine hle.out.mono ?_); rintro e w7 ⟨rfl, b7⟩; replace hb := Lib.hid (belowCont hb.out b7); clear b7)
          go_ret
          exact ⟨rfl, hb.out⟩
end Go.Proofs.Ytmeaidkbkelclab.lock
