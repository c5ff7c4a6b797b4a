/- The law LockPlays: whatever is taken and freed, who holds what is what the document says. No condition. -/
import Derived.Test.YtmeaidkbkelclabLockS
import Derived.Test.YtmeaidkbkelclabLockA
import Derived.Deep.DeepCutAuto
import Derived.Deep.CutBlock
import Derived.BigRegion
import Derived.StillTailTactics
namespace Go.Proofs.Ytmeaidkbkelclab.lock
open Go.RowKit
attribute [local go_sem ↓] Go.wp_at_zero Go.wp_at_succ
set_option linter.unusedVariables false
set_option maxRecDepth 100000

/-- one act -/
theorem act_at {w : World} {a : Option Addr} {len : Nat} (h : SliceArg w a len 4 (fun j v => match j with | 0 => ∃ x, v = .int .i64 x ∧ (Lit.int .i64 x).wf = true | 1 => ∃ x, v = .int .i64 x ∧ (Lit.int .i64 x).wf = true | 2 => ∃ x, v = .bool x | 3 => ∃ x, v = .bool x | _ => False)) {i : Nat} (hi : i < len) :
    ∃ b o who what al fr, a = some ⟨b, o, none⟩ ∧ b < w.heap.size ∧ w.cell? ⟨b, o + i * 4, none⟩ = some (.int .i64 who) ∧ w.cell? ⟨b, o + i * 4 + 1, none⟩ = some (.int .i64 what) ∧ w.cell? ⟨b, o + i * 4 + 2, none⟩ = some (.bool al) ∧ w.cell? ⟨b, o + i * 4 + 3, none⟩ = some (.bool fr) := by
  obtain ⟨_, h2⟩ := h
  obtain ⟨b, o, rfl, hb, hc⟩ := h2.resolve_left (by omega)
  obtain ⟨v0, c0, x0, rfl, _⟩ := hc i hi 0 (by omega)
  obtain ⟨v1, c1, x1, rfl, _⟩ := hc i hi 1 (by omega)
  obtain ⟨v2, c2, x2, rfl⟩ := hc i hi 2 (by omega)
  obtain ⟨v3, c3, x3, rfl⟩ := hc i hi 3 (by omega)
  exact ⟨b, o, x0, x1, x2, x3, rfl, hb, by simpa using c0, c1, c2, c3⟩
set_option maxHeartbeats 64000000 in
theorem lockPlays_walk (a0 : Option Addr) (len0 cap0 : Nat) (w : World) (w0 : SliceArg w a0 len0 4 (fun j v => match j with | 0 => ∃ x, v = .int .i64 x ∧ (Lit.int .i64 x).wf = true | 1 => ∃ x, v = .int .i64 x ∧ (Lit.int .i64 x).wf = true | 2 => ∃ x, v = .bool x | 3 => ∃ x, v = .bool x | _ => False)) :
    Calls Try.prog 4 #[.slice a0 len0 cap0] w fun e w' => e = .returned (.bool true) ∧ Below w.heap.size w w' := by
  have c0 : ∀ W, Calls Try.prog 13 #[] W fun e w' => ∃ g m, e = .returned (.pointer (some ⟨g, 0, none⟩)) ∧ LockAt w' g m 0 (tOf m0) (heldOf m0) 0 ∧ Below W.heap.size W w' ∧ W.heap.size ≤ g ∧ W.heap.size ≤ m := fun W => (new_any W).mono fun e w' ⟨h1, h2, h3⟩ => ⟨_, _, h1, by rw [tOf_m0, held_m0]; exact h2, h3, by omega, by omega⟩
  have hb := Below.refl w.heap.size w
  replace c0 := Lib.hid c0; replace hb := Lib.hid hb; replace w0 := Lib.hid w0
  go_enter Try.func4, Try.ntmps4
  go_upto_region 2 with (first
    | (go_at_call 13; (with_reducible refine (c0.out _).mono ?_); rintro e w1 ⟨g, m, rfl, h1, b1, hg, hm⟩; have hgl := h1.lt; replace hb := Lib.hid (belowCont hb.out b1); clear b1; replace h1 := Lib.hid h1)
    | (refine wpList_zeroH rfl rfl ?_)
    | (refine wpList_newH rfl rfl ?_)
    | (refine wpList_layH rfl (.tmp 4) (.tmp 21) rfl m0 m0 rfl rfl ?_; have hQ : HAt (w1.alloc (.cells (mat6 m0).toArray 46)) w1.heap.size m0 := heap_alloc_new w1 _; have h1 := h1.out.below ((Below.refl _ w1).alloc (Nat.le_refl _) (.cells (mat6 m0).toArray 46)); have hgq : g ≠ w1.heap.size := Nat.ne_of_lt hgl.1; have hmq : m ≠ w1.heap.size := Nat.ne_of_lt hgl.2; have hql := hb.out.size; have hb := hb.out.alloc hb.out.size (.cells (mat6 m0).toArray 46); clear hgl; replace hQ := Lib.hid hQ; replace h1 := Lib.hid h1; replace hb := Lib.hid hb; generalize w1.heap.size = q at *; generalize w1.alloc (.cells (mat6 m0).toArray 46) = w2 at *))
  go_upto_region 3 with (fail)
  have hN := names_new w2
  have hX : Below w2.heap.size w2 (w2.alloc (.cells #[.string ⟨#[97]⟩, .string ⟨#[98]⟩, .string ⟨#[99]⟩, .string ⟨#[100]⟩, .string ⟨#[101]⟩, .string ⟨#[102]⟩] 9)) := (Below.refl _ w2).alloc (Nat.le_refl _) _
  have hgn : g ≠ w2.heap.size := Nat.ne_of_lt h1.out.lt.1
  have hmn : m ≠ w2.heap.size := Nat.ne_of_lt h1.out.lt.2
  have hqn : q ≠ w2.heap.size := Nat.ne_of_lt hQ.out.lt
  replace h1 := h1.out.below hX
  replace hQ := hQ.out.below hX
  replace hb := hb.out.alloc hb.out.size (.cells #[.string ⟨#[97]⟩, .string ⟨#[98]⟩, .string ⟨#[99]⟩, .string ⟨#[100]⟩, .string ⟨#[101]⟩, .string ⟨#[102]⟩] 9)
  replace h1 := Lib.hid h1; replace hQ := Lib.hid hQ; replace hb := Lib.hid hb; replace hN := Lib.hid hN
  clear hX c0
  generalize w2.heap.size = q3 at *
  generalize w2.alloc (.cells #[.string ⟨#[97]⟩, .string ⟨#[98]⟩, .string ⟨#[99]⟩, .string ⟨#[100]⟩, .string ⟨#[101]⟩, .string ⟨#[102]⟩] 9) = w3 at *
  go_wp2_with (go_at_call 14; (with_reducible refine (awake_any _).mono ?_); rintro e w4 ⟨rfl, b3⟩; replace h1 := Lib.hid (h1.out.below b3); replace hQ := Lib.hid (hQ.out.below b3); replace hN := Lib.hid (hN.out.below b3); replace hb := Lib.hid (belowCont hb.out b3); clear b3)
  go_loopg [6] (min len0 80) (fun gn s6 wr => ∃ (i th : Nat) (M : Nat → Nat → Nat), s6 = .int .i64 (i : Int) ∧ i + gn = min len0 80 ∧ LockAt wr g m i (tOf M) (heldOf M) th ∧ Inv M ∧ HAt wr q M ∧ NamesAt wr q3 ∧ Below w.heap.size w wr)
  case atStart => exact ⟨0, 0, m0, rfl, by omega, h1.out, Inv.zero, hQ.out, hN.out, hb.out⟩
  case round =>
    clear h1 hQ hN hb
    obtain ⟨i, th, M, rfl, hik, h, hi, hQ, hN, hb⟩ := hrel
    by_cases hi0 : i < len0 ∧ i < 80
    · obtain ⟨hi1, hi2⟩ := hi0
      obtain ⟨K, rfl⟩ : ∃ K : Nat, gk = K + 1 := ⟨gk - 1, by omega⟩
      obtain ⟨b, o, who, what, al, fr, rfl, hbl, e0, e1, e2, e3⟩ := act_at w0.out hi1
      have d0 := (hb.cell (p := ⟨b, o + i * 4, none⟩) hbl).trans e0
      have d1 := (hb.cell (p := ⟨b, o + i * 4 + 1, none⟩) hbl).trans e1
      have d2 := (hb.cell (p := ⟨b, o + i * 4 + 2, none⟩) hbl).trans e2
      have d3 := (hb.cell (p := ⟨b, o + i * 4 + 3, none⟩) hbl).trans e3
      have i0 : (0 : Int) ≤ (i : Int) := by omega
      have i1 : (i : Int) < (len0 : Int) := by omega
      have i2 : (i : Int) < 80 := by omega
      have hiN : i ≤ 1000000 := by omega
      clear e0 e1 e2 e3 hbl w0
      have hX : Below wr.heap.size wr (wr.alloc (.cells #[.int .i64 who, .int .i64 what, .bool al, .bool fr] 49)) := (Below.refl _ wr).alloc (Nat.le_refl _) _
      have x0 : _ = some (Value.int .i64 who) := newCell wr #[.int .i64 who, .int .i64 what, .bool al, .bool fr] 49 0
      have x2 : _ = some (Value.bool al) := newCell wr #[.int .i64 who, .int .i64 what, .bool al, .bool fr] 49 2
      have hxg : wr.heap.size ≠ g := Nat.ne_of_gt h.lt.1
      have hxm : wr.heap.size ≠ m := Nat.ne_of_gt h.lt.2
      have hxq : wr.heap.size ≠ q := Nat.ne_of_gt hQ.lt
      have hxl : wr.heap.size < (wr.alloc (.cells #[.int .i64 who, .int .i64 what, .bool al, .bool fr] 49)).heap.size := by simp
      have h5 := h.below hX
      have hQ5 := hQ.below hX
      have hN5 := hN.below hX
      have hb5 := hb.alloc hb.size (.cells #[.int .i64 who, .int .i64 what, .bool al, .bool fr] 49)
      replace x0 := Lib.hid x0; replace x2 := Lib.hid x2; replace h5 := Lib.hid h5; replace hQ5 := Lib.hid hQ5; replace hN5 := Lib.hid hN5; replace hb5 := Lib.hid hb5; replace hik := Lib.hid hik; replace hi := Lib.hid hi
      clear h hQ hN hb hX
      obtain ⟨k, hk, hk8⟩ : ∃ k : Nat, k < 6 ∧ (wrap64 (what.tmod 6 + 6)).tmod 6 = (k : Int) := by
        have h1 := Int.tmod_lt_of_pos what (show (0 : Int) < 6 by decide)
        have h2 := Int.lt_tmod_of_pos what (show (0 : Int) < 6 by decide)
        have h3 : wrap64 (what.tmod 6 + 6) = what.tmod 6 + 6 := by unfold wrap64; omega
        rw [h3, Int.tmod_eq_emod_of_nonneg (by omega)]
        exact ⟨((what.tmod 6 + 6) % 6).toNat, by omega, by omega⟩
      go_upto_region 11 with (fail)
      have hxw := hb5.out.size
      clear hk8
      replace x0 := x0.out; replace x2 := x2.out
      have x3 : _ = some (Value.bool fr) := newCell wr #[.int .i64 who, .int .i64 what, .bool al, .bool fr] 49 3
      generalize wr.heap.size = bx at *
      generalize wr.alloc (.cells #[.int .i64 who, .int .i64 what, .bool al, .bool fr] 49) = w5 at *
      cases fr with
      | true =>
        as_aux_lemma =>
        by_cases hw : 0 ≤ who ∧ who < 16
        · obtain ⟨v, rfl⟩ : ∃ v : Nat, who = (v : Int) := ⟨who.toNat, by omega⟩
          have hv : v < 16 := by omega
          have v0 : (0 : Int) ≤ (v : Int) := by omega
          have v1 : (v : Int) < 16 := by omega
          clear hw x0 x2
          go_wp2
          go_loopg [11, 12] 6 (fun gn s11 s12 wr => ∃ x : Nat, s12 = .int .i64 (x : Int) ∧ x + gn = 6 ∧ s11 = .int .i64 (cntK M v x : Int) ∧ LockAt wr g m i (tOf M) (heldOf M) th ∧ HAt wr q (fun a c => if a = v ∧ c < x then 0 else M a c) ∧ NamesAt wr q3 ∧ Below w.heap.size w wr)
          case atStart => exact ⟨0, rfl, by omega, rfl, h5.out, hQ5.out.eq (fun a c _ _ => by rw [if_neg (by omega)]), hN5.out, hb5.out⟩
          case round =>
            clear h5 hQ5 hN5 hb5 x3
            obtain ⟨x, rfl, hxk, rfl, h, hQ, hN, hb⟩ := hrel
            by_cases hx : x < 6
            · obtain ⟨K2, rfl⟩ : ∃ K : Nat, gk = K + 1 := ⟨gk - 1, by omega⟩
              have x1 : (x : Int) < 6 := by omega
              have x0 : (0 : Int) ≤ (x : Int) := by omega
              have d1 := hQ.cell hv hx
              rw [if_neg (by omega)] at d1
              have f1 := hQ.free (v * 6 + x)
              have hcs := cntK_succ M v x
              have hcl := cntK_le M v x
              obtain ⟨n, hn⟩ : ∃ n, n = cntK M v x := ⟨_, rfl⟩
              rw [← hn] at hcs hcl ⊢
              have n3 : IntKind.i64.wrap ((n : Int) + 1) = (n : Int) + 1 := by rw [IntKind.wrap_i64]; omega
              have hcase : (¬ (0 : Int) < (M v x : Int) ∧ cntK M v (x + 1) = n) ∨ ((0 : Int) < (M v x : Int) ∧ cntK M v (x + 1) = n + 1) := by
                by_cases h0 : M v x = 0
                · rw [if_pos h0] at hcs; exact .inl ⟨by omega, hcs⟩
                · rw [if_neg h0] at hcs; exact .inr ⟨by omega, hcs⟩
              have k6 : Keeps [q] wr (wr.setCell ⟨q, v * 6 + x, none⟩ (.int .i64 0)) := (Keeps.refl [q] wr).setCell (p := ⟨q, v * 6 + x, none⟩) (Or.inl (by simp)) _
              have hQ6 := (hQ.put hv hx 0 0 rfl).eq (M' := fun a c => if a = v ∧ c < x + 1 then 0 else M a c) (fun a c _ _ => by
                by_cases h1 : a = v ∧ c = x
                · rw [if_pos h1, if_pos ⟨h1.1, by omega⟩]
                · rw [if_neg h1]
                  by_cases h2 : a = v ∧ c < x
                  · rw [if_pos h2, if_pos ⟨h2.1, by omega⟩]
                  · rw [if_neg h2, if_neg (by omega)])
              have h6 := h.keep k6 (by simpa using hgq) (by simpa using hmq)
              have hN6 := hN.keep k6 (by simpa using Ne.symm hqn)
              have hb6 := hb.trans (k6.below hb.size (by intro y hy; simp at hy; subst hy; exact hql))
              replace hxk := Lib.hid hxk; replace hn := Lib.hid hn; replace h6 := Lib.hid h6; replace hQ6 := Lib.hid hQ6; replace hN6 := Lib.hid hN6; replace hb6 := Lib.hid hb6
              clear hcs h hQ hN hb k6
              rcases hcase with ⟨g1, g2⟩ | ⟨g1, g2⟩
              all_goals
                replace g2 := Lib.hid g2
                go_wp2
                go_roundg K2
                case measure => have := hxk.out; omega
                case rel => exact ⟨x + 1, by go_num, by have := hxk.out; omega, by (rw [g2.out]) <;> (first | rfl | go_num), h6.out, hQ6.out, hN6.out, hb6.out⟩
            · have hk0 : gk = 0 := by omega
              subst hk0
              obtain rfl : x = 6 := by omega
              have x1 : ¬ ((6 : Nat) : Int) < 6 := by omega
              have hhx : cntK M v 6 = heldOf M v := rfl
              rw [hhx]
              by_cases h0 : heldOf M v = 0
              · have hfr := free_none h v hv h0
                have hQ6 := hQ.eq (M' := M) (fun a c _ hc => by
                  by_cases h1 : a = v ∧ c < 6
                  · rw [if_pos h1, h1.1, free_same h0 c hc]
                  · rw [if_neg h1])
                rw [h0]
                have hcg := fun W (hh : LockAt W g m i (tOf M) (heldOf M) th) => hh.congr (N' := i + 1) rfl rfl (by omega)
                replace hfr := Lib.hid hfr; replace h := Lib.hid h; replace hQ6 := Lib.hid hQ6; replace hN := Lib.hid hN; replace hb := Lib.hid hb; replace hcg := Lib.hid hcg
                clear hhx h0 hxk hx hQ
                go_wp2_with (go_at_call 15; (with_reducible refine hfr.out.mono ?_); rintro e w6 ⟨rfl, b6⟩; replace h := Lib.hid (h.out.below b6); replace hQ6 := Lib.hid (hQ6.out.below b6); replace hN := Lib.hid (hN.out.below b6); replace hb := Lib.hid (belowCont hb.out b6); clear b6 hfr)
                go_roundg K
                case measure => have := hik.out; omega
                case rel => exact ⟨i + 1, th, M, by go_num, by have := hik.out; omega, hcg.out _ h.out, hi.out, hQ6.out, hN.out, hb.out⟩
              · have hfr := free_any h v hv h0 hiN
                rw [free_tOf, free_held] at hfr
                have hQ6 := hQ.eq (M' := freeM M v) (fun a c _ hc => by
                  unfold freeM
                  by_cases h1 : a = v
                  · rw [if_pos ⟨h1, hc⟩, if_pos h1]
                  · rw [if_neg (fun h => h1 h.1), if_neg h1])
                have hif := hi.out.free v
                generalize heldOf M v = H at *
                replace hfr := Lib.hid hfr; replace hQ6 := Lib.hid hQ6; replace hN := Lib.hid hN; replace hb := Lib.hid hb; replace hif := Lib.hid hif
                clear hhx h0 hxk hx hQ h
                go_wp2_with (go_at_call 15; (with_reducible refine hfr.out.mono ?_); rintro e w6 ⟨rfl, ⟨th6, h6⟩, k6⟩; have h6 := Lib.hid (h6.congr (N' := i + 1) rfl rfl (by omega)); replace hQ6 := Lib.hid (hQ6.out.keep k6 (by simp [Ne.symm hgq, Ne.symm hmq])); replace hN := Lib.hid (hN.out.keep k6 (by simp [Ne.symm hgn, Ne.symm hmn])); replace hb := Lib.hid (hb.out.trans (k6.below hb.out.size (by intro y hy; simp at hy; rcases hy with rfl | rfl <;> assumption))); clear k6 hfr)
                go_roundg K
                case measure => have := hik.out; omega
                case rel => exact ⟨i + 1, _, _, by go_num, by have := hik.out; omega, h6.out, hif.out, hQ6.out, hN.out, hb.out⟩
        · have hcase : who < 0 ∨ (0 ≤ who ∧ ¬ who < 16) := by omega
          have hfr := fun W => free_out (some ⟨g, 0, none⟩) who (.inr hw) W
          have hcg := fun W (hh : LockAt W g m i (tOf M) (heldOf M) th) => hh.congr (N' := i + 1) rfl rfl (by omega)
          replace hfr := Lib.hid hfr; replace hcg := Lib.hid hcg
          clear hw x0 x2
          rcases hcase with g1 | ⟨g1, g2⟩
          all_goals
            go_wp2
            go_loopg [11, 12] 0 (fun gn s11 s12 wr => s11 = .int .i64 0 ∧ s12 = .int .i64 0 ∧ wr = w5)
            case atStart => exact ⟨rfl, rfl, rfl⟩
            case round =>
              obtain ⟨rfl, rfl, hww⟩ := hrel
              subst hww
              go_wp2_with (go_at_call 15; (with_reducible refine (hfr.out _).mono ?_); rintro e w6 ⟨rfl, b6⟩; replace h5 := Lib.hid (h5.out.below b6); replace hQ5 := Lib.hid (hQ5.out.below b6); replace hN5 := Lib.hid (hN5.out.below b6); replace hb5 := Lib.hid (belowCont hb5.out b6); clear b6 hfr)
              go_roundg K
              case measure => have := hik.out; omega
              case rel => exact ⟨i + 1, th, M, by go_num, by have := hik.out; omega, hcg.out _ h5.out, hi.out, hQ5.out, hN5.out, hb5.out⟩
      | false =>
        obtain ⟨IN, hIN⟩ : ∃ b, b = decide (0 ≤ who ∧ who < 16) := ⟨_, rfl⟩
        go_cut [10] (fun s wx => s = .bool IN ∧ w5 = wx)
        case first =>
          have hcase : (who < 0 ∧ IN = false) ∨ (0 ≤ who ∧ ¬ who < 16 ∧ IN = false) ∨ (0 ≤ who ∧ who < 16 ∧ IN = true) := by
            rw [hIN]
            by_cases h1 : who < 0
            · exact .inl ⟨h1, decide_eq_false (by omega)⟩
            · by_cases h2 : who < 16
              · exact .inr (.inr ⟨by omega, h2, decide_eq_true (by omega)⟩)
              · exact .inr (.inl ⟨by omega, h2, decide_eq_false (by omega)⟩)
          clear hIN
          rcases hcase with ⟨g1, rfl⟩ | ⟨g1, g2, rfl⟩ | ⟨g1, g2, rfl⟩
          all_goals
            go_wp2_with (fail)
            go_meet
            case rel => exact ⟨rfl, rfl⟩
        case rest =>
        obtain ⟨rfl, hwc⟩ := hcut
        subst hwc
        replace hIN := Lib.hid hIN
        have hp6 := row_empty w5
        have hbel := hp6.bel
        have hxl5 := hxl
        obtain ⟨f, hf⟩ : ∃ f, f = fun x => M x k := ⟨_, rfl⟩
        have hfx : ∀ x, M x k = f x := fun x => by rw [hf]
        have hQ6 := hQ5.out.below hbel
        replace hp6 := Lib.hid hp6; replace hbel := Lib.hid hbel; replace hf := Lib.hid hf; replace hfx := Lib.hid hfx; replace hQ6 := Lib.hid hQ6
        go_wp2
        go_loopg [14, 15] 16 (fun gn s14 s15 wr => ∃ x : Nat, s15 = .int .i64 (x : Int) ∧ x + gn = 16 ∧ s14 = .bool (oneK f x) ∧ wr = w5.alloc (.cells #[] 3))
        case atStart => exact ⟨0, rfl, by omega, rfl, rfl⟩
        case round =>
          obtain ⟨x, rfl, hxk, rfl, hww⟩ := hrel
          have hQx := hQ6.out
          rw [← hww] at hQx
          by_cases hx : x < 16
          · obtain ⟨K2, rfl⟩ : ∃ K : Nat, gk = K + 1 := ⟨gk - 1, by omega⟩
            have y1 : (x : Int) < 16 := by omega
            have y0 : (0 : Int) ≤ (x : Int) := by omega
            have k0 : (0 : Int) ≤ (k : Int) := by omega
            have k1 : (k : Int) < 6 := by omega
            have e1 := hQx.cell hx hk
            rw [hfx.out] at e1
            have hos := oneK_succ f x
            have hcase : (oneK f x = true ∧ oneK f (x + 1) = true) ∨ (oneK f x = false ∧ ((((f x : Nat) : Int) == 2) = true) ∧ oneK f (x + 1) = true) ∨ (oneK f x = false ∧ ((((f x : Nat) : Int) == 2) = false) ∧ oneK f (x + 1) = false) := by
              rw [hos]
              cases oneK f x with
              | true => left; simp
              | false =>
                right
                by_cases h2 : f x = 2
                · left; simp [h2]
                · right; refine ⟨rfl, ?_, by simp [h2]⟩
                  simpa using (by omega : ((f x : Nat) : Int) ≠ 2)
            obtain ⟨I2, hI2⟩ : ∃ I2, I2 = oneK f (x + 1) := ⟨_, rfl⟩
            rw [← hI2] at hcase
            generalize oneK f x = I at *
            generalize f x = F at *
            replace hxk := Lib.hid hxk; replace hI2 := Lib.hid hI2; replace hww := Lib.hid hww
            clear hos hQx
            rcases hcase with ⟨rfl, rfl⟩ | ⟨rfl, t1, rfl⟩ | ⟨rfl, t1, rfl⟩
            all_goals
              go_wp2
              go_roundg K2
              case measure => have := hxk.out; omega
              case rel => exact ⟨x + 1, by go_num, by have := hxk.out; omega, by rw [← hI2.out], hww.out⟩
          · have hk0 : gk = 0 := by omega
            subst hk0
            obtain rfl : x = 16 := by omega
            have y1 : ¬ ((16 : Nat) : Int) < 16 := by omega
            obtain ⟨O, hO⟩ : ∃ O, O = oneK f 16 := ⟨_, rfl⟩
            obtain ⟨B, hB⟩ : ∃ B, B = (al || O) := ⟨_, rfl⟩
            rw [← hO]
            rw [← hww] at hp6
            replace hO := Lib.hid hO; replace hB := Lib.hid hB; replace hQ5 := Lib.hid hQ5.out
            clear hxk hx hQx hQ6 hbel hww
            go_wp2
            go_loopg [13, 16] 16 (fun gn s13 s16 wr => ∃ (x : Nat) (ad : Option Addr) (cp : Nat), s16 = .int .i64 (x : Int) ∧ x + gn = 16 ∧ s13 = .slice ad (wantK M k who B x).length cp ∧ Hp w5 [] [.row 3 1 (.slice ad (wantK M k who B x).length cp) (wantK M k who B x).length (ints (wantK M k who B x))] wr)
            case atStart => exact ⟨0, _, _, rfl, by omega, rfl, hp6.out⟩
            case round =>
              clear hp6 y1
              obtain ⟨x, ad, cp, rfl, hxk, rfl, hp⟩ := hrel
              by_cases hx : x < 16
              · obtain ⟨K2, rfl⟩ : ∃ K : Nat, gk = K + 1 := ⟨gk - 1, by omega⟩
                have y1 : (x : Int) < 16 := by omega
                have y0 : (0 : Int) ≤ (x : Int) := by omega
                have k0 : (0 : Int) ≤ (k : Int) := by omega
                have k1 : (k : Int) < 6 := by omega
                have e1 := (hQ5.out.below hp.bel).cell hx hk
                have e2 := (hp.bel.cell (p := ⟨bx, 2, none⟩) hxl).trans x2
                have hws := wantK_succ M k who B x
                have hlen := wantK_len M k who B x
                have hcase : (¬ (0 : Int) < (M x k : Int) ∧ wantB M k who B x = false) ∨ ((0 : Int) < (M x k : Int) ∧ ((x : Int) != who) = false ∧ wantB M k who B x = false) ∨ ((0 : Int) < (M x k : Int) ∧ ((x : Int) != who) = true ∧ ((al = true ∧ wantB M k who B x = true) ∨ (al = false ∧ O = true ∧ wantB M k who B x = true) ∨ (al = false ∧ O = false ∧ wantB M k who B x = false))) := by
                  unfold wantB
                  rw [hB.out]
                  by_cases h1 : M x k = 0
                  · left; exact ⟨by omega, by simp [h1]⟩
                  · right
                    by_cases h2 : (x : Int) = who
                    · left; exact ⟨by omega, by simp [h2], by simp [h2]⟩
                    · right
                      refine ⟨by omega, by simpa using h2, ?_⟩
                      cases al <;> cases O <;> simp [h1, h2]
                generalize M x k = F at *
                generalize wantB M k who B x = WB at *
                replace hxk := Lib.hid hxk; replace hws := Lib.hid hws; replace hlen := Lib.hid hlen; replace hp := Lib.hid hp
                rcases hcase with ⟨g1, rfl⟩ | ⟨g1, g2, rfl⟩ | ⟨g1, g2, h3⟩
                · go_wp2
                  go_roundg K2
                  case measure => have := hxk.out; omega
                  case rel => exact ⟨x + 1, ad, cp, by go_num, by have := hxk.out; omega, by (have := hws.out; rw [if_neg (by simp), List.append_nil] at this; rw [this]), by (have := hws.out; rw [if_neg (by simp), List.append_nil] at this; rw [this]; exact hp.out)⟩
                · go_wp2
                  go_roundg K2
                  case measure => have := hxk.out; omega
                  case rel => exact ⟨x + 1, ad, cp, by go_num, by have := hxk.out; omega, by (have := hws.out; rw [if_neg (by simp), List.append_nil] at this; rw [this]), by (have := hws.out; rw [if_neg (by simp), List.append_nil] at this; rw [this]; exact hp.out)⟩
                · rcases h3 with ⟨rfl, rfl⟩ | ⟨rfl, rfl, rfl⟩ | ⟨rfl, rfl, rfl⟩
                  · go_wp2_with (at_builtin; go_loud (refine wpList_append_hp rfl _ _ rfl Try.underlying51 intsInfo rfl (by decide) (by decide) (hp.out.alloc_ (.cells #[.int .i64 (x : Int)] 3)) 0 rfl rfl _ _ [.int .i64 (x : Int)] rfl rfl (block_cells (heap_alloc_new _ _)) (by intro u hu; simp at hu; subst hu; rfl) (by have := hlen.out; omega) ?_; intro v5 w7 hp5 hv5; replace hp5 := Lib.hid hp5; obtain ⟨b5, cp5, rfl⟩ := hv5))
                    go_roundg K2
                    case measure => have := hxk.out; omega
                    case rel => exact ⟨x + 1, some ⟨b5, 0, none⟩, cp5, by go_num, by have := hxk.out; omega, by (have h := hws.out; rw [if_pos trivial] at h; rw [h, List.length_append]; rfl), by (have h := hws.out; rw [if_pos trivial] at h; have := hp5.out; rw [h, List.length_append, ints_snoc]; exact this)⟩
                  · go_wp2_with (at_builtin; go_loud (refine wpList_append_hp rfl _ _ rfl Try.underlying51 intsInfo rfl (by decide) (by decide) (hp.out.alloc_ (.cells #[.int .i64 (x : Int)] 3)) 0 rfl rfl _ _ [.int .i64 (x : Int)] rfl rfl (block_cells (heap_alloc_new _ _)) (by intro u hu; simp at hu; subst hu; rfl) (by have := hlen.out; omega) ?_; intro v5 w7 hp5 hv5; replace hp5 := Lib.hid hp5; obtain ⟨b5, cp5, rfl⟩ := hv5))
                    go_roundg K2
                    case measure => have := hxk.out; omega
                    case rel => exact ⟨x + 1, some ⟨b5, 0, none⟩, cp5, by go_num, by have := hxk.out; omega, by (have h := hws.out; rw [if_pos trivial] at h; rw [h, List.length_append]; rfl), by (have h := hws.out; rw [if_pos trivial] at h; have := hp5.out; rw [h, List.length_append, ints_snoc]; exact this)⟩
                  · go_wp2
                    go_roundg K2
                    case measure => have := hxk.out; omega
                    case rel => exact ⟨x + 1, ad, cp, by go_num, by have := hxk.out; omega, by (have := hws.out; rw [if_neg (by simp), List.append_nil] at this; rw [this]), by (have := hws.out; rw [if_neg (by simp), List.append_nil] at this; rw [this]; exact hp.out)⟩
              · have hk0 : gk = 0 := by omega
                subst hk0
                obtain rfl : x = 16 := by omega
                have y1 : ¬ ((16 : Nat) : Int) < 16 := by omega
                have hb6 := hp.bel
                obtain ⟨ad0, cp0, hv0, hS⟩ := row_read hp
                simp only [Value.slice.injEq, true_and] at hv0
                obtain ⟨rfl, rfl⟩ := hv0
                have h6 := h5.out.below hb6
                have hQ6 := hQ5.out.below hb6
                have hN6 := hN5.out.below hb6
                have hb7 := hb5.out.trans (hb6.mono hb5.out.size)
                have z0 := (hb6.cell (p := ⟨bx, 0, none⟩) hxl).trans x0
                have z2 := (hb6.cell (p := ⟨bx, 2, none⟩) hxl).trans x2
                have hxl6 := Nat.lt_of_lt_of_le hxl hb6.size
                have d5 := hN6.2 k hk
                have k0 : (0 : Int) ≤ (k : Int) := by omega
                have k1 : (k : Int) < 6 := by omega
                have hal : B = (al || oneK f 16) := by rw [hB.out, hO.out]
                have hff := hf.out
                replace h6 := Lib.hid h6; replace hQ6 := Lib.hid hQ6; replace hN6 := Lib.hid hN6; replace hb7 := Lib.hid hb7; replace hS := Lib.hid hS
                clear hxk hx hp h5 hQ5 hN5 hb5 hb6 hB hO hf hfx x0 x2 x3 hxl
                cases hIN2 : IN with
                | false =>
                  as_aux_lemma =>
                  have hout : ¬ (0 ≤ who ∧ who < 16) := by have := hIN.out; rw [hIN2] at this; exact of_decide_eq_false this.symm
                  have htk := fun W => take_bad (some ⟨g, 0, none⟩) who (str (nameK k)) al W (.inr (.inl hout))
                  have hcg := fun W (hh : LockAt W g m i (tOf M) (heldOf M) th) => hh.congr (N' := i + 1) rfl rfl (by omega)
                  replace htk := Lib.hid htk; replace hcg := Lib.hid hcg
                  clear hIN hIN2 hout hal hff hS
                  generalize (wantK M k who B 16).length = c at *
                  have hdr : Below wr.heap.size wr wr.drew := (Below.refl _ _).drew
                  go_upto_region 32 with (fail)
                  go_cut [17, 18] (fun s17 s18 wx => s17 = .slice none 0 0 ∧ s18 = .int .i64 1 ∧ LockAt wx g m i (tOf M) (heldOf M) th ∧ HAt wx q M ∧ NamesAt wx q3 ∧ Below w.heap.size w wx)
                  case first =>
                    replace h6 := Lib.hid (h6.out.below hdr); replace hQ6 := Lib.hid (hQ6.out.below hdr); replace hN6 := Lib.hid (hN6.out.below hdr); replace hb7 := Lib.hid hb7.out.drew
                    clear hdr
                    go_region_with (go_at_call 16; (with_reducible refine (htk.out _).mono ?_); rintro e w9 ⟨rfl, b9⟩; replace h6 := Lib.hid (h6.out.below b9); replace hQ6 := Lib.hid (hQ6.out.below b9); replace hN6 := Lib.hid (hN6.out.below b9); replace hb7 := Lib.hid (belowCont hb7.out b9); clear b9 htk)
                    all_goals
                      go_wp2_with (fail)
                      go_meet
                      case rel => exact ⟨rfl, rfl, h6.out, hQ6.out, hN6.out, hb7.out⟩
                  case rest =>
                  clear h6 hQ6 hN6 hb7 htk z0 z2 hxl6 d5 hdr
                  obtain ⟨rfl, rfl, h6, hQ6, hN6, hb7⟩ := hcut
                  replace h6 := Lib.hid h6; replace hQ6 := Lib.hid hQ6; replace hN6 := Lib.hid hN6; replace hb7 := Lib.hid hb7
                  go_wp2
                  go_roundg K
                  case measure => have := hik.out; omega
                  case rel => exact ⟨i + 1, th, M, by go_num, by have := hik.out; omega, hcg.out _ h6.out, hi.out, hQ6.out, hN6.out, hb7.out⟩
                | true =>
                  have hin : 0 ≤ who ∧ who < 16 := by have := hIN.out; rw [hIN2] at this; exact of_decide_eq_true this.symm
                  obtain ⟨v, rfl⟩ : ∃ v : Nat, who = (v : Int) := ⟨who.toNat, by omega⟩
                  have hv : v < 16 := by omega
                  have v0 : (0 : Int) ≤ (v : Int) := by omega
                  have v1 : (v : Int) < 16 := by omega
                  have hwant := want_ag hi.out k v al
                  rw [← hff, ← hal, hff] at hwant
                  have h6M : ¬ (tOf M (nameK k) v = 0 ∧ 512 ≤ heldOf M v) := fun hh => by have := cntK_le M v 6; have h2 := hh.2; unfold heldOf at h2; omega
                  have h6h : heldOf M v ≤ 1000000 := by have := cntK_le M v 6; unfold heldOf; omega
                  rw [hwant] at hS ⊢
                  have hdr : Below wr.heap.size wr wr.drew := (Below.refl _ _).drew
                  have hTN := tOf_name M hk
                  clear hIN hIN2 hin hal hwant
                  by_cases hL : agK (fun x => M x k) v al 16 = []
                  · have htk := fun W (hh : LockAt W g m i (tOf M) (heldOf M) th) => take_ok hh v hv (nameK k) (by simp [nameK]) (by simp [nameK]) al h6M (by rw [hTN]; exact hL) hiN h6h
                    rw [take_tOf M v hk al, take_held M v hk al] at htk
                    have hit := hi.out.take hv hL
                    rw [hL, List.length_nil]
                    replace htk := Lib.hid htk; replace hit := Lib.hid hit
                    clear hff hS hTN h6M h6h hL
                    go_upto_region 32 with (fail)
                    go_cut [17, 18] (fun s17 s18 wx => s17 = .slice none 0 0 ∧ s18 = .int .i64 0 ∧ (∃ th9, LockAt wx g m (i + 1) (tOf (takeM M v k al)) (heldOf (takeM M v k al)) th9) ∧ HAt wx q M ∧ NamesAt wx q3 ∧ Below w.heap.size w wx ∧ wx.cell? ⟨bx, 2, none⟩ = some (.bool al) ∧ bx < wx.heap.size)
                    case first =>
                      replace h6 := Lib.hid (h6.out.below hdr); replace hQ6 := Lib.hid (hQ6.out.below hdr); replace hN6 := Lib.hid (hN6.out.below hdr); replace hb7 := Lib.hid hb7.out.drew
                      have y2 := Lib.hid ((hdr.cell (p := ⟨bx, 2, none⟩) hxl6).trans z2)
                      have y3 := Nat.lt_of_lt_of_le hxl6 hdr.size
                      clear hdr
                      go_region_with (go_at_call 16; (with_reducible refine (htk.out _ h6.out).mono ?_); rintro e w9 ⟨rfl, h9, k9⟩; replace hQ6 := Lib.hid (hQ6.out.keep k9 (by simp [Ne.symm hgq, Ne.symm hmq])); replace hN6 := Lib.hid (hN6.out.keep k9 (by simp [Ne.symm hgn, Ne.symm hmn])); replace hb7 := Lib.hid (hb7.out.trans (k9.below hb7.out.size (by intro y hy; simp at hy; rcases hy with rfl | rfl <;> assumption))); replace y2 := Lib.hid ((k9.cell (p := ⟨bx, 2, none⟩) y3 (by simp [hxg, hxm])).trans y2.out); replace y3 := Nat.lt_of_lt_of_le y3 k9.size; replace h9 := Lib.hid h9; clear k9 htk h6)
                      all_goals
                        go_wp2_with (fail)
                        go_meet
                        case rel => exact ⟨rfl, rfl, ⟨_, h9.out⟩, hQ6.out, hN6.out, hb7.out, y2.out, y3⟩
                    case rest =>
                    clear h6 hQ6 hN6 hb7 htk z0 z2 hxl6 d5 hdr
                    obtain ⟨rfl, rfl, ⟨th9, h9⟩, hQ6, hN6, hb7, z2, hxl6⟩ := hcut
                    replace h9 := Lib.hid h9; replace hQ6 := Lib.hid hQ6; replace hN6 := Lib.hid hN6; replace hb7 := Lib.hid hb7
                    go_wp2
                    go_loopg [19] 0 (fun gn s19 wr' => s19 = .int .i64 0 ∧ wr' = wc)
                    case atStart => exact ⟨rfl, rfl⟩
                    case round =>
                      obtain ⟨rfl, hww⟩ := hrel
                      subst hww
                      have c1 := hQ6.out.cell hv hk
                      have f1 := hQ6.out.free (v * 6 + k)
                      go_upto_region 44 with (fail)
                      go_region
                      have hQ7 := (hQ6.out.put hv hk (max (M v k) 1) (max ((M v k : Nat) : Int) 1) (by omega)).drew
                      have k7 : Keeps [q] wr (wr.setCell ⟨q, v * 6 + k, none⟩ (.int .i64 (max ((M v k : Nat) : Int) 1))).drew := ((Keeps.refl [q] wr).setCell (p := ⟨q, v * 6 + k, none⟩) (Or.inl (by simp)) _).drew
                      have h7 := h9.out.keep k7 (by simpa using hgq) (by simpa using hmq)
                      have hN7 := hN6.out.keep k7 (by simpa using Ne.symm hqn)
                      have hb8 := hb7.out.trans (k7.below hb7.out.size (by intro y hy; simp at hy; subst hy; exact hql))
                      have z3 := (k7.cell (p := ⟨bx, 2, none⟩) hxl6 (by simpa using hxq)).trans z2
                      clear k7 hQ6 h9 hN6 hb7 z2 c1 f1 hxl6
                      generalize (wr.setCell ⟨q, v * 6 + k, none⟩ (.int .i64 (max ((M v k : Nat) : Int) 1))).drew = w10 at *
                      cases al with
                      | false =>
                        have hQ8 := hQ7.eq (M' := takeM M v k false) (fun x j _ _ => by
                          unfold takeM
                          by_cases h1 : x = v ∧ j = k
                          · rw [if_pos h1, if_pos h1]
                            by_cases h0 : M v k = 0
                            · simp [h0]
                            · simp [h0]; omega
                          · rw [if_neg h1, if_neg h1])
                        replace hQ8 := Lib.hid hQ8; have h8 := Lib.hid h7; have hN8 := Lib.hid hN7; replace hb8 := Lib.hid hb8
                        clear hQ7 h7 hN7
                        go_wp2_with (first
                          | (refine wpList_loadH rfl (.tmp 4) rfl hQ8.out rfl ?_)
                          | (go_at_call 17; (with_reducible refine (right_any h8.out hit.out hN8.out).mono ?_); rintro e w11 ⟨rfl, b11⟩; replace h8 := Lib.hid (h8.out.below b11); replace hQ8 := Lib.hid (hQ8.out.below b11); replace hN8 := Lib.hid (hN8.out.below b11); replace hb8 := Lib.hid (belowCont hb8.out b11); clear b11))
                        go_roundg K
                        case measure => have := hik.out; omega
                        case rel => exact ⟨i + 1, _, _, by go_num, by have := hik.out; omega, h8.out, hit.out, hQ8.out, hN8.out, hb8.out⟩
                      | true =>
                        have c1 := hQ7.cell hv hk
                        have f1 := hQ7.free (v * 6 + k)
                        have k8 : Keeps [q] w10 (w10.setCell ⟨q, v * 6 + k, none⟩ (.int .i64 2)) := (Keeps.refl [q] w10).setCell (p := ⟨q, v * 6 + k, none⟩) (Or.inl (by simp)) _
                        have hQ8 := (hQ7.put hv hk 2 2 rfl).eq (M' := takeM M v k true) (fun x j _ _ => by
                          unfold takeM
                          by_cases h1 : x = v ∧ j = k
                          · rw [if_pos h1, if_pos h1]; rfl
                          · rw [if_neg h1, if_neg h1, if_neg h1])
                        have h8 := Lib.hid (h7.keep k8 (by simpa using hgq) (by simpa using hmq))
                        have hN8 := Lib.hid (hN7.keep k8 (by simpa using Ne.symm hqn))
                        replace hb8 := Lib.hid (hb8.trans (k8.below hb8.size (by intro y hy; simp at hy; subst hy; exact hql)))
                        replace hQ8 := Lib.hid hQ8
                        clear hQ7 h7 hN7 k8
                        go_wp2_with (first
                          | (refine wpList_loadH rfl (.tmp 4) rfl hQ8.out rfl ?_)
                          | (go_at_call 17; (with_reducible refine (right_any h8.out hit.out hN8.out).mono ?_); rintro e w11 ⟨rfl, b11⟩; replace h8 := Lib.hid (h8.out.below b11); replace hQ8 := Lib.hid (hQ8.out.below b11); replace hN8 := Lib.hid (hN8.out.below b11); replace hb8 := Lib.hid (belowCont hb8.out b11); clear b11))
                        go_roundg K
                        case measure => have := hik.out; omega
                        case rel => exact ⟨i + 1, _, _, by go_num, by have := hik.out; omega, h8.out, hit.out, hQ8.out, hN8.out, hb8.out⟩
                  · have htk := fun W (hh : LockAt W g m i (tOf M) (heldOf M) th) => take_ag hh v hv (nameK k) (by simp [nameK]) (by simp [nameK]) al h6M (by rw [hTN]; exact hL)
                    rw [hTN] at htk
                    have hcg := fun W (hh : LockAt W g m i (tOf M) (heldOf M) th) => hh.congr (N' := i + 1) rfl rfl (by omega)
                    have hCl := agK_len (fun x => M x k) v al 16
                    generalize agK (fun x => M x k) v al 16 = L at *
                    replace hCl := Lib.hid hCl
                    have hLp : 0 < L.length := List.length_pos_iff.2 hL
                    obtain ⟨c, hc⟩ : ∃ c, c = L.length := ⟨_, rfl⟩
                    rw [← hc] at hLp
                    have htc : ((c : Int) == 0) = false := by simpa using (by omega : (c : Int) ≠ 0)
                    replace htk := Lib.hid htk; replace hcg := Lib.hid hcg; replace hc := Lib.hid hc
                    clear hff hTN h6M h6h z0 hxl6
                    go_upto_region 32 with (fail)
                    go_cut [17, 18] (fun s17 s18 wx => s18 = .int .i64 0 ∧ LockAt wx g m i (tOf M) (heldOf M) th ∧ HAt wx q M ∧ NamesAt wx q3 ∧ Below w.heap.size w wx ∧ Below wr.heap.size wr wx ∧ ∃ ad1 cp1, s17 = .slice ad1 L.length cp1 ∧ (L = [] ∨ ∃ b, ad1 = some ⟨b, 0, none⟩ ∧ b < wx.heap.size ∧ ∀ j x : Nat, L[j]? = some x → wx.cell? ⟨b, j, none⟩ = some (.int .i64 (x : Int))))
                    case first =>
                      replace h6 := Lib.hid (h6.out.below hdr); replace hQ6 := Lib.hid (hQ6.out.below hdr); replace hN6 := Lib.hid (hN6.out.below hdr); replace hb7 := Lib.hid hb7.out.drew
                      replace hdr := Lib.hid hdr
                      go_region_with (go_at_call 16; (with_reducible refine (htk.out _ h6.out).mono ?_); rintro e w9 ⟨v9, rfl, h9⟩; replace h9 := Lib.hid h9; clear htk)
                      all_goals
                        go_wp2_with (fail)
                        go_meet
                        case rel => exact (by obtain ⟨ad1, cp1, rfl, hS1⟩ := row_read h9.out; have b9 := h9.out.bel; exact ⟨rfl, h6.out.below b9, hQ6.out.below b9, hN6.out.below b9, belowCont hb7.out b9, belowCont hdr.out b9, ad1, cp1, rfl, hS1⟩)
                    case rest =>
                    clear h6 hQ6 hN6 hb7 htk d5 z2 hdr
                    obtain ⟨rfl, h6, hQ6, hN6, hb7, hdr, ad1, cp1, rfl, hS1⟩ := hcut
                    obtain ⟨b1, rfl, hb1, hc1⟩ := hS1.resolve_left hL
                    obtain ⟨b2, rfl, hb2, hc2⟩ := hS.out.resolve_left hL
                    replace hc2 := fun j x h => (hdr.cell (p := ⟨b2, j, none⟩) hb2).trans (hc2 j x h)
                    replace hb2 := Nat.lt_of_lt_of_le hb2 hdr.size
                    replace h6 := Lib.hid h6; replace hQ6 := Lib.hid hQ6; replace hN6 := Lib.hid hN6; replace hb7 := Lib.hid hb7; replace hc1 := Lib.hid hc1; replace hc2 := Lib.hid hc2
                    clear hS hS1 hL hdr
                    rw [← hc.out]
                    go_wp2
                    go_loopg [19] c (fun gn s19 wr' => ∃ x : Nat, s19 = .int .i64 (x : Int) ∧ x + gn = c ∧ Below wc.heap.size wc wr')
                    case atStart => exact ⟨0, rfl, by omega, Below.refl _ _⟩
                    case round =>
                      obtain ⟨x, rfl, hxk, hb9⟩ := hrel
                      by_cases hx : x < c
                      · obtain ⟨K2, rfl⟩ : ∃ K : Nat, gk = K + 1 := ⟨gk - 1, by omega⟩
                        have y1 : (x : Int) < (c : Int) := by omega
                        have y0 : (0 : Int) ≤ (x : Int) := by omega
                        have y3 : IntKind.i64.wrap ((x : Int) + 1) = (x : Int) + 1 := by have h1 := hCl.out; have h2 := hc.out; rw [IntKind.wrap_i64]; omega
                        obtain ⟨n, hn⟩ : ∃ n, L[x]? = some n := ⟨_, List.getElem?_eq_getElem (by have := hc.out; omega)⟩
                        have e1 := (hb9.cell (p := ⟨b1, x, none⟩) hb1).trans (hc1.out x n hn)
                        have e2 := (hb9.cell (p := ⟨b2, x, none⟩) hb2).trans (hc2.out x n hn)
                        replace hxk := Lib.hid hxk; replace hb9 := Lib.hid hb9
                        clear hn
                        go_upto_region 41 with (fail)
                        go_region
                        go_wp2
                        go_roundg K2
                        case measure => have := hxk.out; omega
                        case rel => exact ⟨x + 1, by go_num, by have := hxk.out; omega, hb9.out.drew⟩
                      · have hk0 : gk = 0 := by omega
                        subst hk0
                        obtain rfl : x = c := by omega
                        have y1 : ¬ (x : Int) < (x : Int) := by omega
                        have h8 := Lib.hid (h6.out.below hb9)
                        have hQ8 := Lib.hid (hQ6.out.below hb9)
                        have hN8 := Lib.hid (hN6.out.below hb9)
                        have hb8 := Lib.hid (belowCont hb7.out hb9)
                        clear hxk hx hb9 h6 hQ6 hN6 hb7 hc1 hc2 hLp
                        go_wp2_with (first
                          | (refine wpList_loadH rfl (.tmp 4) rfl hQ8.out rfl ?_)
                          | (go_at_call 17; (with_reducible refine (right_any h8.out hi.out hN8.out).mono ?_); rintro e w11 ⟨rfl, b11⟩; replace h8 := Lib.hid (h8.out.below b11); replace hQ8 := Lib.hid (hQ8.out.below b11); replace hN8 := Lib.hid (hN8.out.below b11); replace hb8 := Lib.hid (belowCont hb8.out b11); clear b11))
                        go_roundg K
                        case measure => have := hik.out; omega
                        case rel => exact ⟨i + 1, th, M, by go_num, by have := hik.out; omega, hcg.out _ h8.out, hi.out, hQ8.out, hN8.out, hb8.out⟩
    · have hk0 : gk = 0 := by omega
      subst hk0
      have hcase : ((i : Int) < (len0 : Int) ∧ ¬ (i : Int) < 80) ∨ ¬ (i : Int) < (len0 : Int) := by omega
      replace hb := Lib.hid hb
      clear h hi hQ hN hik hi0 w0
      rcases hcase with ⟨g1, g2⟩ | g1
      all_goals
        go_wp2
        go_ret
        exact ⟨rfl, hb.out⟩
end Go.Proofs.Ytmeaidkbkelclab.lock
