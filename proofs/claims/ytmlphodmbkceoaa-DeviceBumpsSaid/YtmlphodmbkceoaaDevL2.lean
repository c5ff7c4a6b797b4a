/- The law DeviceBumps: the number rises by one with each bump that is done, and the register is what was laid then; where the power fails neither is changed. No condition but the slices' cells. -/
import Derived.Test.YtmlphodmbkceoaaDevB
import Derived.Deep.DeepCutAuto
namespace Go.Proofs.Ytmlphodmbkceoaa.disk
open Go.RowKit
attribute [local go_sem ↓] Go.wp_at_zero Go.wp_at_succ
attribute [local go_sem] str_size
set_option linter.unusedVariables false
set_option maxRecDepth 100000

set_option maxHeartbeats 8000000 in
theorem deviceBumps_walk (a0 : Option Addr) (len0 cap0 : Nat) (a1 : Option Addr) (len1 cap1 : Nat) (a2 : Option Addr) (len2 cap2 : Nat) (w : World) (w0 : SliceArg w a0 len0 2 (fun j v => match j with | 0 => ∃ x, v = .int .i64 x ∧ (Lit.int .i64 x).wf = true | 1 => ∃ x, v = .int .u64 x ∧ (Lit.int .u64 x).wf = true | _ => False)) (k0 : len0 ≤ cap0 ∧ cap0 ≤ 9223372036854775807) (w1 : SliceArg w a1 len1 1 (fun _ v => ∃ x, v = .int .u8 x ∧ (Lit.int .u8 x).wf = true)) (w2 : SliceArg w a2 len2 1 (fun _ v => ∃ x, v = .bool x)) :
    Calls Try.prog 9 #[.slice a0 len0 cap0, .slice a1 len1 cap1, .slice a2 len2 cap2] w fun e w' => e = .returned (.bool true) ∧ Below w.heap.size w w' := by
  obtain ⟨n5, hn5, hn5a, hn5b⟩ : ∃ n5 : Nat, min (len0 : Int) 5 = (n5 : Int) ∧ n5 ≤ 5 ∧ n5 ≤ len0 := ⟨min len0 5, by omega, by omega, by omega⟩
  have cM : ∀ cp, Calls Try.prog 46 #[.slice a0 n5 cp] w fun e w' => ∃ d g k, e = .returned (.tuple #[.pointer (some ⟨d, 0, none⟩), .pointer (some ⟨g, 0, none⟩)]) ∧ DevAt w' d K32 (str Z33) 0 g ∧ CutAt w' w.heap.size g k 5 0 false ∧ w.heap.size ≤ d ∧ Below w.heap.size w w' := fun cp => made_c w a0 n5 cp hn5a (CutArg.of w0 hn5b)
  have hc5 : (n5 : Int) ≤ (cap0 : Int) := by omega
  have hc0 : (0 : Int) ≤ (n5 : Int) := by omega
  have cW0 : ∀ W, Calls Try.prog 47 #[.int .u8 0] W fun e w' => e = .returned (.string (str Z33)) ∧ Below W.heap.size W w' := fun W => word_any 0 W
  replace cM := Lib.hid cM; replace cW0 := Lib.hid cW0; replace w1 := Lib.hid w1; replace w2 := Lib.hid w2
  clear w0 hn5a hn5b
  go_enter Try.func9, Try.ntmps9
  have hb := Lib.hid (Below.refl w.heap.size w)
  have sz : ((str Z33).toList == (str Z33).toList) = true := by simp
  have sz2 : ((str Z33).toList != (str Z33).toList) = false := by simp
  generalize str Z33 = R0 at *
  go_wp2_with (first
    | (go_at_call 46; (with_reducible refine (cM.out _).mono ?_); rintro e w3 ⟨d, g, k, rfl, hv, hD, hwd, b3⟩; replace hb := Lib.hid b3; replace hv := Lib.hid hv; replace hD := Lib.hid hD; clear b3)
    | (go_at_call 47; (with_reducible refine (cW0.out _).mono ?_); rintro e w3 ⟨rfl, b3⟩; replace hb := Lib.hid (belowCont hb.out b3); replace hv := Lib.hid (hv.out.below b3); replace hD := Lib.hid (hD.out.below b3); clear b3)
    | (go_at_call 48; (with_reducible refine (dawake_any _).mono ?_); rintro e w3 ⟨rfl, b3⟩; replace hb := Lib.hid (belowCont hb.out b3); replace hv := Lib.hid (hv.out.below b3); replace hD := Lib.hid (hD.out.below b3); clear b3)
    | (go_at_call 49; (with_reducible refine (register_any hv.out).mono ?_); rintro e w3 ⟨rfl, b3⟩; replace hb := Lib.hid (belowCont hb.out b3); replace hv := Lib.hid (hv.out.below b3); replace hD := Lib.hid (hD.out.below b3); clear b3))
  have hge : ∀ (w' : World) (x : Unit), (w.heap.size ≤ g ∧ w.heap.size ≤ k) → ∀ y, y ∈ [d, g, k] → w.heap.size ≤ y := fun _ _ h y hy => by
    simp at hy
    rcases hy with rfl | rfl | rfl
    · exact hwd
    · exact h.1
    · exact h.2
  replace hge := Lib.hid (fun (w' : World) => hge w' ())
  go_loopg [9, 10, 11] (min len1 40) (fun gn s9 s10 s11 wr => ∃ (i c acts : Nat) (dead : Bool) (R : ByteArray), s11 = .int .i64 (i : Int) ∧ i + gn = min len1 40 ∧ s9 = .int .u64 (c : Int) ∧ s10 = .string R ∧ c ≤ i ∧ acts ≤ i ∧ DevAt wr d K32 R c g ∧ CutAt wr w.heap.size g k 5 acts dead ∧ Below w.heap.size w wr)
  case atStart => exact ⟨0, 0, 0, false, R0, rfl, by omega, rfl, rfl, by omega, by omega, hv.out, hD.out, hb.out⟩
  case round =>
    clear hv hD hb sz sz2 cM cW0
    obtain ⟨i, c, acts, dead, R, rfl, hik, rfl, rfl, hci, hai, hv, hD, hb⟩ := hrel
    by_cases hi : i < len1 ∧ i < 40
    · obtain ⟨hi1, hi2⟩ := hi
      obtain ⟨K, rfl⟩ : ∃ K : Nat, gk = K + 1 := ⟨gk - 1, by omega⟩
      obtain ⟨b, o, c8, rfl, hbl, e0⟩ := bytes_at w1.out hi1
      have yb := (hb.cell (p := ⟨b, o + i, none⟩) hbl).trans e0
      obtain ⟨Wd, hWd⟩ : ∃ W, W = str (wordL c8) := ⟨_, rfl⟩
      have hwd := fun W => word_any c8 W
      have hW33 : Wd.size = 33 := by rw [hWd, str_size, wordL_len]
      rw [← hWd] at hwd
      have s1 : (R.toList == R.toList) = true := by simp
      have s2 : (R.toList != R.toList) = false := by simp
      have s3 : (Wd.toList == Wd.toList) = true := by simp
      have s4 : (Wd.toList != Wd.toList) = false := by simp
      have i0 : (0 : Int) ≤ (i : Int) := by omega
      have i1 : (i : Int) < (len1 : Int) := by omega
      have i2 : (i : Int) < 40 := by omega
      have e1 : IntKind.u64.wrap ((c : Int) + 1) = (c : Int) + 1 := IntWalk.u64_in _ (by omega)
      have hacts : acts < 1000000 := by omega
      have hcs : c < 1000000 := by omega
      have c0 : (0 : Int) ≤ (c : Int) := by omega
      have c1 : (c : Int) ≤ 40 := by omega
      have ac0 : (0 : Int) ≤ (acts : Int) := by omega
      have ac1 : (acts : Int) ≤ 40 := by omega
      replace hwd := Lib.hid hwd; replace hW33 := Lib.hid hW33; replace hacts := Lib.hid hacts; replace hcs := Lib.hid hcs; replace hbl := Lib.hid hbl; replace hik := Lib.hid hik; replace hci := Lib.hid hci; replace hai := Lib.hid hai; replace hv := Lib.hid hv; replace hD := Lib.hid hD; replace hb := Lib.hid hb
      clear hWd
      have hup : (¬ (i : Int) < (len2 : Int)) ∨ ((i : Int) < (len2 : Int) ∧ ∃ b2 o2 u, a2 = some ⟨b2, o2, none⟩ ∧ b2 < w.heap.size ∧ w.cell? ⟨b2, o2 + i, none⟩ = some (.bool u)) := by
        by_cases h2 : i < len2
        · right
          obtain ⟨b2, o2, u, q1, q2, q3⟩ := bools_at w2.out h2
          exact ⟨by omega, b2, o2, u, q1, q2, q3⟩
        · left; omega
      rcases hup with g1 | ⟨g1, b2, o2, u, rfl, hb2l, e2⟩
      · cases dead with
        | true =>
          go_wp2_with (first
            | (go_at_call 51; (with_reducible refine (acts_c hD.out).mono ?_); rintro e w3 ⟨rfl, b3⟩; replace hb := Lib.hid (belowCont hb.out b3); replace hv := Lib.hid (hv.out.below b3); replace hD := Lib.hid (hD.out.below b3); clear b3; have yb := (hb.out.cell (p := ⟨b, o + i, none⟩) hbl.out).trans e0)
            | (go_at_call 52; (with_reducible refine (dead_c hD.out).mono ?_); rintro e w3 ⟨rfl, b3⟩; replace hb := Lib.hid (belowCont hb.out b3); replace hv := Lib.hid (hv.out.below b3); replace hD := Lib.hid (hD.out.below b3); clear b3; have yb := (hb.out.cell (p := ⟨b, o + i, none⟩) hbl.out).trans e0)
            | (go_at_call 54; (with_reducible refine (counter_any hv.out).mono ?_); rintro e w3 ⟨rfl, b3⟩; replace hb := Lib.hid (belowCont hb.out b3); replace hv := Lib.hid (hv.out.below b3); replace hD := Lib.hid (hD.out.below b3); clear b3; have yb := (hb.out.cell (p := ⟨b, o + i, none⟩) hbl.out).trans e0)
            | (go_at_call 49; (with_reducible refine (register_any hv.out).mono ?_); rintro e w3 ⟨rfl, b3⟩; replace hb := Lib.hid (belowCont hb.out b3); replace hv := Lib.hid (hv.out.below b3); replace hD := Lib.hid (hD.out.below b3); clear b3; have yb := (hb.out.cell (p := ⟨b, o + i, none⟩) hbl.out).trans e0)
            | (go_at_call 47; (with_reducible refine (hwd.out _).mono ?_); rintro e w3 ⟨rfl, b3⟩; replace hb := Lib.hid (belowCont hb.out b3); replace hv := Lib.hid (hv.out.below b3); replace hD := Lib.hid (hD.out.below b3); clear b3; have yb := (hb.out.cell (p := ⟨b, o + i, none⟩) hbl.out).trans e0)
            | (go_at_call 53; (with_reducible refine (bump_dead hD.out hv.out Wd hW33.out).mono ?_); rintro e w3 ⟨rfl, b3⟩; replace hb := Lib.hid (belowCont hb.out b3); replace hv := Lib.hid (hv.out.below b3); replace hD := Lib.hid (hD.out.below b3); clear b3; have yb := (hb.out.cell (p := ⟨b, o + i, none⟩) hbl.out).trans e0))
          go_roundg K
          case measure => have := hik.out; omega
          case rel => exact ⟨i + 1, c, acts, true, R, by go_num, by have := hik.out; omega, rfl, rfl, by have := hci.out; omega, by have := hai.out; omega, hv.out, hD.out, hb.out⟩
        | false =>
          go_wp2_with (first
            | (go_at_call 51; (with_reducible refine (acts_c hD.out).mono ?_); rintro e w3 ⟨rfl, b3⟩; replace hb := Lib.hid (belowCont hb.out b3); replace hv := Lib.hid (hv.out.below b3); replace hD := Lib.hid (hD.out.below b3); clear b3; have yb := (hb.out.cell (p := ⟨b, o + i, none⟩) hbl.out).trans e0)
            | (go_at_call 52; (with_reducible refine (dead_c hD.out).mono ?_); rintro e w3 ⟨rfl, b3⟩; replace hb := Lib.hid (belowCont hb.out b3); replace hv := Lib.hid (hv.out.below b3); replace hD := Lib.hid (hD.out.below b3); clear b3; have yb := (hb.out.cell (p := ⟨b, o + i, none⟩) hbl.out).trans e0)
            | (go_at_call 54; (with_reducible refine (counter_any hv.out).mono ?_); rintro e w3 ⟨rfl, b3⟩; replace hb := Lib.hid (belowCont hb.out b3); replace hv := Lib.hid (hv.out.below b3); replace hD := Lib.hid (hD.out.below b3); clear b3; have yb := (hb.out.cell (p := ⟨b, o + i, none⟩) hbl.out).trans e0)
            | (go_at_call 49; (with_reducible refine (register_any hv.out).mono ?_); rintro e w3 ⟨rfl, b3⟩; replace hb := Lib.hid (belowCont hb.out b3); replace hv := Lib.hid (hv.out.below b3); replace hD := Lib.hid (hD.out.below b3); clear b3; have yb := (hb.out.cell (p := ⟨b, o + i, none⟩) hbl.out).trans e0)
            | (go_at_call 47; (with_reducible refine (hwd.out _).mono ?_); rintro e w3 ⟨rfl, b3⟩; replace hb := Lib.hid (belowCont hb.out b3); replace hv := Lib.hid (hv.out.below b3); replace hD := Lib.hid (hD.out.below b3); clear b3; have yb := (hb.out.cell (p := ⟨b, o + i, none⟩) hbl.out).trans e0)
            | (go_at_call 53; (with_reducible refine (bump_c hD.out hv.out hacts.out hcs.out Wd hW33.out).mono ?_); rintro e w4 hbt; rcases hbt with ⟨rfl, hv4, hD4, k4⟩ | ⟨rfl, hv4, hD4, k4⟩ <;> (replace hb := Lib.hid (hb.out.trans (k4.below hb.out.size (hge.out w hD4.ge))); replace hv := Lib.hid hv4; replace hD := Lib.hid hD4; clear k4 hv4 hD4; have yb := (hb.out.cell (p := ⟨b, o + i, none⟩) hbl.out).trans e0)))
          · go_roundg K
            case measure => have := hik.out; omega
            case rel => exact ⟨i + 1, c, acts + 1, true, R, by go_num, by have := hik.out; omega, by go_num, rfl, by have := hci.out; omega, by have := hai.out; omega, hv.out, hD.out, hb.out⟩
          · go_roundg K
            case measure => have := hik.out; omega
            case rel => exact ⟨i + 1, c + 1, acts + 1, false, Wd, by go_num, by have := hik.out; omega, by go_num, rfl, by have := hci.out; omega, by have := hai.out; omega, hv.out, hD.out, hb.out⟩
      · have yc := (hb.out.cell (p := ⟨b2, o2 + i, none⟩) hb2l).trans e2
        replace hb2l := Lib.hid hb2l
        cases u with
        | false =>
          cases dead with
          | true =>
            go_wp2_with (first
              | (go_at_call 51; (with_reducible refine (acts_c hD.out).mono ?_); rintro e w3 ⟨rfl, b3⟩; replace hb := Lib.hid (belowCont hb.out b3); replace hv := Lib.hid (hv.out.below b3); replace hD := Lib.hid (hD.out.below b3); clear b3; have yb := (hb.out.cell (p := ⟨b, o + i, none⟩) hbl.out).trans e0; have yc := (hb.out.cell (p := ⟨b2, o2 + i, none⟩) hb2l.out).trans e2)
              | (go_at_call 52; (with_reducible refine (dead_c hD.out).mono ?_); rintro e w3 ⟨rfl, b3⟩; replace hb := Lib.hid (belowCont hb.out b3); replace hv := Lib.hid (hv.out.below b3); replace hD := Lib.hid (hD.out.below b3); clear b3; have yb := (hb.out.cell (p := ⟨b, o + i, none⟩) hbl.out).trans e0; have yc := (hb.out.cell (p := ⟨b2, o2 + i, none⟩) hb2l.out).trans e2)
              | (go_at_call 54; (with_reducible refine (counter_any hv.out).mono ?_); rintro e w3 ⟨rfl, b3⟩; replace hb := Lib.hid (belowCont hb.out b3); replace hv := Lib.hid (hv.out.below b3); replace hD := Lib.hid (hD.out.below b3); clear b3; have yb := (hb.out.cell (p := ⟨b, o + i, none⟩) hbl.out).trans e0; have yc := (hb.out.cell (p := ⟨b2, o2 + i, none⟩) hb2l.out).trans e2)
              | (go_at_call 49; (with_reducible refine (register_any hv.out).mono ?_); rintro e w3 ⟨rfl, b3⟩; replace hb := Lib.hid (belowCont hb.out b3); replace hv := Lib.hid (hv.out.below b3); replace hD := Lib.hid (hD.out.below b3); clear b3; have yb := (hb.out.cell (p := ⟨b, o + i, none⟩) hbl.out).trans e0; have yc := (hb.out.cell (p := ⟨b2, o2 + i, none⟩) hb2l.out).trans e2)
              | (go_at_call 47; (with_reducible refine (hwd.out _).mono ?_); rintro e w3 ⟨rfl, b3⟩; replace hb := Lib.hid (belowCont hb.out b3); replace hv := Lib.hid (hv.out.below b3); replace hD := Lib.hid (hD.out.below b3); clear b3; have yb := (hb.out.cell (p := ⟨b, o + i, none⟩) hbl.out).trans e0; have yc := (hb.out.cell (p := ⟨b2, o2 + i, none⟩) hb2l.out).trans e2)
              | (go_at_call 53; (with_reducible refine (bump_dead hD.out hv.out Wd hW33.out).mono ?_); rintro e w3 ⟨rfl, b3⟩; replace hb := Lib.hid (belowCont hb.out b3); replace hv := Lib.hid (hv.out.below b3); replace hD := Lib.hid (hD.out.below b3); clear b3; have yb := (hb.out.cell (p := ⟨b, o + i, none⟩) hbl.out).trans e0; have yc := (hb.out.cell (p := ⟨b2, o2 + i, none⟩) hb2l.out).trans e2)
              | (go_at_call 50; (with_reducible refine (up_c hD.out).mono ?_); rintro e w3 ⟨rfl, hD4, k4⟩; replace hb := Lib.hid (hb.out.trans (k4.below hb.out.size (hge.out w hD4.ge))); replace hv := Lib.hid (hv.out.keep k4 (by simp [(dev_apart_c hv.out hD.out).1])); replace hD := Lib.hid hD4; clear k4 hD4; have yb := (hb.out.cell (p := ⟨b, o + i, none⟩) hbl.out).trans e0; have yc := (hb.out.cell (p := ⟨b2, o2 + i, none⟩) hb2l.out).trans e2))
            go_roundg K
            case measure => have := hik.out; omega
            case rel => exact ⟨i + 1, c, acts, true, R, by go_num, by have := hik.out; omega, rfl, rfl, by have := hci.out; omega, by have := hai.out; omega, hv.out, hD.out, hb.out⟩
          | false =>
            go_wp2_with (first
              | (go_at_call 51; (with_reducible refine (acts_c hD.out).mono ?_); rintro e w3 ⟨rfl, b3⟩; replace hb := Lib.hid (belowCont hb.out b3); replace hv := Lib.hid (hv.out.below b3); replace hD := Lib.hid (hD.out.below b3); clear b3; have yb := (hb.out.cell (p := ⟨b, o + i, none⟩) hbl.out).trans e0; have yc := (hb.out.cell (p := ⟨b2, o2 + i, none⟩) hb2l.out).trans e2)
              | (go_at_call 52; (with_reducible refine (dead_c hD.out).mono ?_); rintro e w3 ⟨rfl, b3⟩; replace hb := Lib.hid (belowCont hb.out b3); replace hv := Lib.hid (hv.out.below b3); replace hD := Lib.hid (hD.out.below b3); clear b3; have yb := (hb.out.cell (p := ⟨b, o + i, none⟩) hbl.out).trans e0; have yc := (hb.out.cell (p := ⟨b2, o2 + i, none⟩) hb2l.out).trans e2)
              | (go_at_call 54; (with_reducible refine (counter_any hv.out).mono ?_); rintro e w3 ⟨rfl, b3⟩; replace hb := Lib.hid (belowCont hb.out b3); replace hv := Lib.hid (hv.out.below b3); replace hD := Lib.hid (hD.out.below b3); clear b3; have yb := (hb.out.cell (p := ⟨b, o + i, none⟩) hbl.out).trans e0; have yc := (hb.out.cell (p := ⟨b2, o2 + i, none⟩) hb2l.out).trans e2)
              | (go_at_call 49; (with_reducible refine (register_any hv.out).mono ?_); rintro e w3 ⟨rfl, b3⟩; replace hb := Lib.hid (belowCont hb.out b3); replace hv := Lib.hid (hv.out.below b3); replace hD := Lib.hid (hD.out.below b3); clear b3; have yb := (hb.out.cell (p := ⟨b, o + i, none⟩) hbl.out).trans e0; have yc := (hb.out.cell (p := ⟨b2, o2 + i, none⟩) hb2l.out).trans e2)
              | (go_at_call 47; (with_reducible refine (hwd.out _).mono ?_); rintro e w3 ⟨rfl, b3⟩; replace hb := Lib.hid (belowCont hb.out b3); replace hv := Lib.hid (hv.out.below b3); replace hD := Lib.hid (hD.out.below b3); clear b3; have yb := (hb.out.cell (p := ⟨b, o + i, none⟩) hbl.out).trans e0; have yc := (hb.out.cell (p := ⟨b2, o2 + i, none⟩) hb2l.out).trans e2)
              | (go_at_call 53; (with_reducible refine (bump_c hD.out hv.out hacts.out hcs.out Wd hW33.out).mono ?_); rintro e w4 hbt; rcases hbt with ⟨rfl, hv4, hD4, k4⟩ | ⟨rfl, hv4, hD4, k4⟩ <;> (replace hb := Lib.hid (hb.out.trans (k4.below hb.out.size (hge.out w hD4.ge))); replace hv := Lib.hid hv4; replace hD := Lib.hid hD4; clear k4 hv4 hD4; have yb := (hb.out.cell (p := ⟨b, o + i, none⟩) hbl.out).trans e0; have yc := (hb.out.cell (p := ⟨b2, o2 + i, none⟩) hb2l.out).trans e2))
              | (go_at_call 50; (with_reducible refine (up_c hD.out).mono ?_); rintro e w3 ⟨rfl, hD4, k4⟩; replace hb := Lib.hid (hb.out.trans (k4.below hb.out.size (hge.out w hD4.ge))); replace hv := Lib.hid (hv.out.keep k4 (by simp [(dev_apart_c hv.out hD.out).1])); replace hD := Lib.hid hD4; clear k4 hD4; have yb := (hb.out.cell (p := ⟨b, o + i, none⟩) hbl.out).trans e0; have yc := (hb.out.cell (p := ⟨b2, o2 + i, none⟩) hb2l.out).trans e2))
            · go_roundg K
              case measure => have := hik.out; omega
              case rel => exact ⟨i + 1, c, acts + 1, true, R, by go_num, by have := hik.out; omega, by go_num, rfl, by have := hci.out; omega, by have := hai.out; omega, hv.out, hD.out, hb.out⟩
            · go_roundg K
              case measure => have := hik.out; omega
              case rel => exact ⟨i + 1, c + 1, acts + 1, false, Wd, by go_num, by have := hik.out; omega, by go_num, rfl, by have := hci.out; omega, by have := hai.out; omega, hv.out, hD.out, hb.out⟩
        | true =>
          go_wp2_with (first
            | (go_at_call 51; (with_reducible refine (acts_c hD.out).mono ?_); rintro e w3 ⟨rfl, b3⟩; replace hb := Lib.hid (belowCont hb.out b3); replace hv := Lib.hid (hv.out.below b3); replace hD := Lib.hid (hD.out.below b3); clear b3; have yb := (hb.out.cell (p := ⟨b, o + i, none⟩) hbl.out).trans e0; have yc := (hb.out.cell (p := ⟨b2, o2 + i, none⟩) hb2l.out).trans e2)
            | (go_at_call 52; (with_reducible refine (dead_c hD.out).mono ?_); rintro e w3 ⟨rfl, b3⟩; replace hb := Lib.hid (belowCont hb.out b3); replace hv := Lib.hid (hv.out.below b3); replace hD := Lib.hid (hD.out.below b3); clear b3; have yb := (hb.out.cell (p := ⟨b, o + i, none⟩) hbl.out).trans e0; have yc := (hb.out.cell (p := ⟨b2, o2 + i, none⟩) hb2l.out).trans e2)
            | (go_at_call 54; (with_reducible refine (counter_any hv.out).mono ?_); rintro e w3 ⟨rfl, b3⟩; replace hb := Lib.hid (belowCont hb.out b3); replace hv := Lib.hid (hv.out.below b3); replace hD := Lib.hid (hD.out.below b3); clear b3; have yb := (hb.out.cell (p := ⟨b, o + i, none⟩) hbl.out).trans e0; have yc := (hb.out.cell (p := ⟨b2, o2 + i, none⟩) hb2l.out).trans e2)
            | (go_at_call 49; (with_reducible refine (register_any hv.out).mono ?_); rintro e w3 ⟨rfl, b3⟩; replace hb := Lib.hid (belowCont hb.out b3); replace hv := Lib.hid (hv.out.below b3); replace hD := Lib.hid (hD.out.below b3); clear b3; have yb := (hb.out.cell (p := ⟨b, o + i, none⟩) hbl.out).trans e0; have yc := (hb.out.cell (p := ⟨b2, o2 + i, none⟩) hb2l.out).trans e2)
            | (go_at_call 47; (with_reducible refine (hwd.out _).mono ?_); rintro e w3 ⟨rfl, b3⟩; replace hb := Lib.hid (belowCont hb.out b3); replace hv := Lib.hid (hv.out.below b3); replace hD := Lib.hid (hD.out.below b3); clear b3; have yb := (hb.out.cell (p := ⟨b, o + i, none⟩) hbl.out).trans e0; have yc := (hb.out.cell (p := ⟨b2, o2 + i, none⟩) hb2l.out).trans e2)
            | (go_at_call 53; (with_reducible refine (bump_c hD.out hv.out hacts.out hcs.out Wd hW33.out).mono ?_); rintro e w4 hbt; rcases hbt with ⟨rfl, hv4, hD4, k4⟩ | ⟨rfl, hv4, hD4, k4⟩ <;> (replace hb := Lib.hid (hb.out.trans (k4.below hb.out.size (hge.out w hD4.ge))); replace hv := Lib.hid hv4; replace hD := Lib.hid hD4; clear k4 hv4 hD4; have yb := (hb.out.cell (p := ⟨b, o + i, none⟩) hbl.out).trans e0; have yc := (hb.out.cell (p := ⟨b2, o2 + i, none⟩) hb2l.out).trans e2))
            | (go_at_call 50; (with_reducible refine (up_c hD.out).mono ?_); rintro e w3 ⟨rfl, hD4, k4⟩; replace hb := Lib.hid (hb.out.trans (k4.below hb.out.size (by intro y hy; simp at hy; subst hy; exact hD4.ge.1))); replace hv := Lib.hid (hv.out.keep k4 (by simp [(dev_apart_c hv.out hD.out).1])); replace hD := Lib.hid hD4; clear k4 hD4; have yb := (hb.out.cell (p := ⟨b, o + i, none⟩) hbl.out).trans e0; have yc := (hb.out.cell (p := ⟨b2, o2 + i, none⟩) hb2l.out).trans e2))
          · go_roundg K
            case measure => have := hik.out; omega
            case rel => exact ⟨i + 1, c, acts + 1, true, R, by go_num, by have := hik.out; omega, by go_num, rfl, by have := hci.out; omega, by have := hai.out; omega, hv.out, hD.out, hb.out⟩
          · go_roundg K
            case measure => have := hik.out; omega
            case rel => exact ⟨i + 1, c + 1, acts + 1, false, Wd, by go_num, by have := hik.out; omega, by go_num, rfl, by have := hci.out; omega, by have := hai.out; omega, hv.out, hD.out, hb.out⟩
    · have hgk : gk = 0 := by omega
      subst hgk
      have hcase : ¬ (i : Int) < (len1 : Int) ∨ ((i : Int) < (len1 : Int) ∧ ¬ (i : Int) < 40) := by omega
      have cK : ∀ W, DevAt W d K32 R c g → Calls Try.prog 55 #[.pointer (some ⟨d, 0, none⟩)] W fun e w' => e = .returned (.string ⟨#[48, 49, 50, 51, 52, 53, 54, 55, 56, 57, 97, 98, 99, 100, 101, 102, 48, 49, 50, 51, 52, 53, 54, 55, 56, 57, 97, 98, 99, 100, 101, 102]⟩) ∧ Below W.heap.size W w' := fun W h => key_any h
      have i0 : (0 : Int) ≤ (i : Int) := by omega
      replace cK := Lib.hid cK; replace hv := Lib.hid hv; replace hD := Lib.hid hD; replace hb := Lib.hid hb; replace hik := Lib.hid hik; replace hci := Lib.hid hci; replace hai := Lib.hid hai
      rcases hcase with g1 | ⟨g1, g2⟩
      all_goals
        go_wp2_with (go_at_call 55; (with_reducible refine (cK.out _ hv.out).mono ?_); rintro e w3 ⟨rfl, b3⟩; replace hb := Lib.hid (belowCont hb.out b3); clear b3)
        go_ret
        exact ⟨rfl, hb.out⟩
end Go.Proofs.Ytmlphodmbkceoaa.disk
