/- A record has the document's bytes, and is read again; one that may not be has none: the law WalPuts. No condition. -/
import Derived.Test.YtoghijgcnodkfaaWal8
import Derived.Test.YtoghijgcnodkfaaWal4
namespace Go.Proofs.Ytoghijgcnodkfaa.wal
open Go.RowKit
attribute [local go_sem ↓] Go.wp_at_zero Go.wp_at_succ
attribute [local go_sem] str_size str_bl str_append
set_option linter.unusedVariables false
set_option maxRecDepth 100000

theorem recL_ne (l : List Ch) : recL l ≠ [] := by
  unfold recL
  intro h
  have := List.append_eq_nil_iff.1 h
  have h1 := this.1
  rw [code.numL] at h1
  split at h1 <;> simp at h1
set_option maxHeartbeats 4000000 in
theorem walPuts_walk (a0 : Option Addr) (len0 cap0 : Nat) (a1 : Int) (w : World) (w0 : SliceArg w a0 len0 3 (fun j v => match j with | 0 => ∃ x, v = .string x ∧ x.size ≤ maxLen | 1 => ∃ x, v = .string x ∧ x.size ≤ maxLen | 2 => ∃ x, v = .bool x | _ => False)) (w1 : (Lit.int .i64 a1).wf = true) :
    Calls Try.prog 11 #[.slice a0 len0 cap0, .int .i64 a1] w fun e w' => e = .returned (.bool true) ∧ Below w.heap.size w w' := by
  have hcut := cut_any a0 len0 cap0 a1 w w0
  replace hcut := Lib.hid hcut
  clear w0 w1
  go_enter Try.func11, Try.ntmps11
  go_upto_region 2 with (go_at_call 62; (with_reducible refine hcut.out.mono ?_); rintro e w1 ⟨v, x, rfl, hs, hx, b1⟩)
  have hput := fun W k => put_any v x W (hs.below k)
  have hrput := fun W k => rput_any v x W (hs.below k)
  have hmay := fun W k => may_any v x W (hs.below k)
  have hrmay := fun W k => rmay_any v x W (hs.below k)
  obtain ⟨m, hm⟩ : ∃ m, m = mayL x := ⟨_, rfl⟩
  rw [← hm] at hmay hrmay
  have t1 : (m != m) = false := by simp
  by_cases hyes : m = true ∧ (recL x).length ≤ 16384
  · have hpl : putL x = recL x := by unfold putL; rw [← hm, if_pos hyes]
    rw [hpl] at hput hrput
    have hget := fun W => get_rec x (by rw [← hm]; exact hyes.1) hyes.2 W
    have hne := recL_ne x
    generalize recL x = M at *
    have n1 : M.isEmpty = false := by cases M <;> simp at hne ⊢
    have n2 : (M == []) = false := by simpa using hne
    have n3 : (M == M) = true := by simp
    have n4 : (M != M) = false := by simp
    have n5 : (M != []) = true := by simpa using hne
    have hb := Lib.hid (Below.refl w1.heap.size w1)
    replace b1 := Lib.hid b1; replace hs := Lib.hid hs; replace hput := Lib.hid hput; replace hrput := Lib.hid hrput; replace hmay := Lib.hid hmay; replace hrmay := Lib.hid hrmay; replace hget := Lib.hid hget; replace hm := Lib.hid hm; replace hne := Lib.hid hne
    obtain ⟨hy1, hy2⟩ := hyes
    clear hcut hpl hy1 hy2
    go_wp2_with (first
      | (go_at_call 63; (with_reducible refine (hput.out _ hb.out).mono ?_); rintro e w2 ⟨rfl, b2⟩; replace hb := Lib.hid (belowCont hb.out b2); clear b2)
      | (go_at_call 64; (with_reducible refine (hget.out _).mono ?_); rintro e w2 ⟨v2, rfl, h2⟩; have hg := Lib.hid (h2.sl (i := 0) rfl (by omega)); replace hb := Lib.hid (belowCont hb.out h2.bel); clear h2)
      | (go_at_call 65; (with_reducible refine (awake_any _).mono ?_); rintro e w2 ⟨rfl, b2⟩; replace hb := Lib.hid (belowCont hb.out b2); replace hg := Lib.hid (hg.out.below b2); clear b2)
      | (go_at_call 66; (with_reducible refine (hrput.out _ hb.out).mono ?_); rintro e w2 ⟨rfl, b2⟩; replace hb := Lib.hid (belowCont hb.out b2); replace hg := Lib.hid (hg.out.below b2); clear b2)
      | (go_at_call 67; (with_reducible refine (hmay.out _ hb.out).mono ?_); rintro e w2 ⟨rfl, b2⟩; replace hb := Lib.hid (belowCont hb.out b2); replace hg := Lib.hid (hg.out.below b2); clear b2)
      | (go_at_call 68; (with_reducible refine (hrmay.out _ hb.out).mono ?_); rintro e w2 ⟨rfl, b2⟩; replace hb := Lib.hid (belowCont hb.out b2); replace hg := Lib.hid (hg.out.below b2); clear b2)
      | (go_at_call 69; (with_reducible refine (same_yes x _ _ _ (hs.out.below hb.out) hg.out).mono ?_); rintro e w2 ⟨rfl, b2⟩; replace hb := Lib.hid (belowCont hb.out b2); clear b2))
    go_ret
    exact ⟨rfl, belowCont b1.out hb.out⟩
  · have hpl : putL x = [] := by unfold putL; rw [← hm, if_neg hyes]
    rw [hpl] at hput hrput
    have hge := fun W => get_empty W
    have hput' : ∀ W, Below w1.heap.size w1 W → Calls Try.prog 63 #[v] W fun e w' => e = .returned (.string ⟨#[]⟩) ∧ Below W.heap.size W w' := hput
    have hrput' : ∀ W, Below w1.heap.size w1 W → Calls Try.prog 66 #[v] W fun e w' => e = .returned (.string ⟨#[]⟩) ∧ Below W.heap.size W w' := hrput
    have hb := Lib.hid (Below.refl w1.heap.size w1)
    replace b1 := Lib.hid b1; replace hput' := Lib.hid hput'; replace hrput' := Lib.hid hrput'; replace hmay := Lib.hid hmay; replace hrmay := Lib.hid hrmay; replace hge := Lib.hid hge; replace hm := Lib.hid hm
    clear hcut hpl hyes hx hput hrput hs
    go_wp2_with (first
      | (go_at_call 63; (with_reducible refine (hput'.out _ hb.out).mono ?_); rintro e w2 ⟨rfl, b2⟩; replace hb := Lib.hid (belowCont hb.out b2); clear b2)
      | (go_at_call 64; (with_reducible refine (hge.out _).mono ?_); rintro e w2 ⟨rfl, b2⟩; replace hb := Lib.hid (belowCont hb.out b2); clear b2)
      | (go_at_call 65; (with_reducible refine (awake_any _).mono ?_); rintro e w2 ⟨rfl, b2⟩; replace hb := Lib.hid (belowCont hb.out b2); clear b2)
      | (go_at_call 66; (with_reducible refine (hrput'.out _ hb.out).mono ?_); rintro e w2 ⟨rfl, b2⟩; replace hb := Lib.hid (belowCont hb.out b2); clear b2)
      | (go_at_call 67; (with_reducible refine (hmay.out _ hb.out).mono ?_); rintro e w2 ⟨rfl, b2⟩; replace hb := Lib.hid (belowCont hb.out b2); clear b2)
      | (go_at_call 68; (with_reducible refine (hrmay.out _ hb.out).mono ?_); rintro e w2 ⟨rfl, b2⟩; replace hb := Lib.hid (belowCont hb.out b2); clear b2))
    go_ret
    exact ⟨rfl, belowCont b1.out hb.out⟩
end Go.Proofs.Ytoghijgcnodkfaa.wal
