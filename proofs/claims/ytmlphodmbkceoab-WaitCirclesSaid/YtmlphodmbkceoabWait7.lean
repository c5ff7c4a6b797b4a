/- Who waits for whom: Victim. No condition but the graph's own, and the slices' cells. -/
import Derived.Test.YtmlphodmbkceoabWait6
namespace Go.Proofs.Ytmlphodmbkceoab.wait
open Go.RowKit
open Go.Sort
attribute [local go_sem ↓] Go.wp_at_zero Go.wp_at_succ
set_option linter.unusedVariables false
set_option maxRecDepth 100000

def vstep (ages : List Nat) (st : Int × Nat) (x : Nat) : Int × Nat := if st.1 = -1 ∨ st.2 ≤ ages.getD x 0 then ((x : Int), ages.getD x 0) else st
def vict (ages : List Nat) (l : List Nat) : Int × Nat := l.foldl (vstep ages) (-1, 0)
theorem vict_take {ages l : List Nat} {k x : Nat} (h : l[k]? = some x) : vict ages (l.take (k + 1)) = vstep ages (vict ages (l.take k)) x := by
  unfold vict
  rw [List.take_add_one, h, List.foldl_append]; rfl
def ageC (ages : List Nat) : List Value := ages.map fun (a : Nat) => Value.int .u64 (a : Int)
set_option maxHeartbeats 4000000 in
theorem victim_of {w : World} {C : List Nat} (p : Option Addr) (who : Int) (hC : C.length ≤ 16) (hcir : Calls Try.prog 32 #[.pointer p, .int .i64 who] w fun e w' => ∃ v, e = .returned v ∧ Hp w [] [.row 3 1 v C.length (nums C)] w')
    (va : Value) (ages : List Nat) (ha : Sl w va ages.length (ageC ages)) :
    Calls Try.prog 33 #[.pointer p, .int .i64 who, va] w fun e w' => e = .returned (.int .i64 (vict ages C).1) ∧ Below w.heap.size w w' := by
  obtain ⟨a, cap, rfl, hm, ha⟩ := ha
  obtain ⟨n, hn⟩ : ∃ n, n = ages.length := ⟨_, rfl⟩
  rw [← hn] at hm ha ⊢
  obtain ⟨c, hc⟩ : ∃ c, c = C.length := ⟨_, rfl⟩
  rw [← hc] at hcir hC
  obtain ⟨V, hV⟩ : ∃ V, V = (vict ages C).1 := ⟨_, rfl⟩
  rw [← hV]
  replace hcir := Lib.hid hcir; replace ha := Lib.hid ha; replace hn := Lib.hid hn; replace hc := Lib.hid hc; replace hV := Lib.hid hV
  go_enter Try.func33, Try.ntmps33
  go_wp2_with (go_at_call 32; (with_reducible refine hcir.out.mono ?_); rintro e w1 ⟨v, rfl, h1⟩; obtain ⟨ad, cp, rfl⟩ := rowShape (h1.row (i := 0) rfl); replace h1 := Lib.hid h1)
  go_loopg [7, 8, 16] c (fun gn s7 s8 s16 wr => ∃ k : Nat, s16 = .int .i64 (k : Int) ∧ k + gn = c ∧ s7 = .int .i64 (vict ages (C.take k)).1 ∧ s8 = .int .u64 ((vict ages (C.take k)).2 : Int) ∧ Hp w [] [.row 3 1 (.slice ad c cp) c (nums C)] wr)
  case atStart => exact ⟨0, rfl, by omega, rfl, rfl, h1.out⟩
  case round =>
    clear h1
    obtain ⟨k, rfl, hkn, rfl, rfl, hp⟩ := hrel
    by_cases hk : k < c
    · obtain ⟨K, rfl⟩ : ∃ K : Nat, gk = K + 1 := ⟨gk - 1, by omega⟩
      obtain ⟨x, hx⟩ : ∃ x, C[k]? = some x := ⟨_, List.getElem?_eq_getElem (by have := hc.out; omega)⟩
      have hvt := vict_take (ages := ages) hx
      obtain ⟨b, cq, hb⟩ : ∃ b cq, (Value.slice ad c cp) = .slice (some ⟨b, 0, none⟩) c cq ∧ ∀ j u, (nums C)[j]? = some u → wr.cell? ⟨b, j, none⟩ = some u := by
        rcases (hp.row (i := 0) rfl).2 with ⟨_, h0⟩ | ⟨g, cap, cur, hv, _⟩
        · omega
        · refine ⟨g, cap, hv, fun j u hu => ?_⟩
          have := World.ownsRow.cells (hp.row (i := 0) rfl) (g := g) (by rw [hv]; rfl) j u hu
          rwa [addr_add, Nat.zero_add] at this
      obtain ⟨hbv, hbc⟩ := hb
      simp only [Value.slice.injEq, true_and] at hbv
      obtain ⟨rfl, rfl⟩ := hbv
      have d0 := hbc k (.int .i64 (x : Int)) (by simp [nums, hx])
      obtain ⟨A, hA⟩ : ∃ A, A = ages.getD x 0 := ⟨_, rfl⟩
      unfold vstep at hvt
      rw [← hA] at hvt
      have x0 : (0 : Int) ≤ (x : Int) := by omega
      have k0 : (0 : Int) ≤ (k : Int) := by omega
      have k1 : (k : Int) < (c : Int) := by omega
      have k3 : IntKind.i64.wrap ((k : Int) + 1) = (k : Int) + 1 := by rw [IntKind.wrap_i64]; omega
      have hcell : x < n → ∃ b o, a = some ⟨b, o, none⟩ ∧ wr.cell? ⟨b, o + x, none⟩ = some (.int .u64 (A : Int)) := fun hxn => by
        obtain ⟨b, o, hab, hr⟩ := ha.out.resolve_left (by omega)
        refine ⟨b, o, hab, (hp.bel.cell hr.1).trans (hr.2 x _ ?_)⟩
        have : x < ages.length := by have := hn.out; omega
        simp [ageC, this, hA]
      have hcno : ¬ x < n → A = 0 := fun hxn => by
        rw [hA]
        have : ages.length ≤ x := by have := hn.out; omega
        simp [this]
      obtain ⟨S2, hS2⟩ : ∃ S, S = vict ages (C.take (k + 1)) := ⟨_, rfl⟩
      rw [← hS2] at hvt
      replace hS2 := Lib.hid hS2
      generalize vict ages (C.take k) = S1 at *
      obtain ⟨V0, G0⟩ := S1
      simp only at hvt ⊢
      replace hp := Lib.hid hp; replace hkn := Lib.hid hkn; replace hvt := Lib.hid hvt
      clear hbc hx hA hk
      have hdec : (((V0 == -1) = true) ∧ S2 = ((x : Int), A)) ∨ (((V0 == -1) = false) ∧ (G0 : Int) ≤ (A : Int) ∧ S2 = ((x : Int), A)) ∨ (((V0 == -1) = false) ∧ ¬ (G0 : Int) ≤ (A : Int) ∧ S2 = (V0, G0)) := by
        have hS := hvt.out
        by_cases hv : V0 = -1
        · rw [if_pos (.inl hv)] at hS
          exact .inl ⟨by simp [hv], hS⟩
        · by_cases hg : G0 ≤ A
          · rw [if_pos (.inr hg)] at hS
            exact .inr (.inl ⟨by simp [hv], by omega, hS⟩)
          · rw [if_neg (by simp [hv]; omega)] at hS
            exact .inr (.inr ⟨by simp [hv], by omega, hS⟩)
      clear hvt
      by_cases hxn : x < n
      · obtain ⟨b2, o2, rfl, c2⟩ := hcell hxn
        have x1 : (x : Int) < (n : Int) := by omega
        clear hcell hcno hxn
        rcases hdec with ⟨t1, rfl⟩ | ⟨t1, t2, rfl⟩ | ⟨t1, t2, rfl⟩
        all_goals
          go_wp2
          go_roundg K
          case measure => have := hkn.out; omega
          case rel => exact ⟨k + 1, by go_num, by have := hkn.out; omega, by rw [← hS2.out], by (rw [← hS2.out]) <;> (first | rfl | go_num), hp.out⟩
      · have x1 : ¬ (x : Int) < (n : Int) := by omega
        obtain rfl := hcno hxn
        clear hcell hcno hxn
        rcases hdec with ⟨t1, rfl⟩ | ⟨t1, t2, rfl⟩ | ⟨t1, t2, rfl⟩
        all_goals
          go_wp2
          go_roundg K
          case measure => have := hkn.out; omega
          case rel => exact ⟨k + 1, by go_num, by have := hkn.out; omega, by rw [← hS2.out], by (rw [← hS2.out]) <;> (first | rfl | go_num), hp.out⟩
    · have hk0 : gk = 0 := by omega
      subst hk0
      obtain rfl : k = c := by omega
      have k1 : ¬ (k : Int) < (k : Int) := by omega
      have hfin : (vict ages (C.take k)).1 = V := by rw [hV.out, List.take_of_length_le (by have := hc.out; omega)]
      rw [hfin]
      replace hp := Lib.hid hp
      clear hkn hk hfin
      go_wp2
      go_ret
      exact ⟨rfl, hp.out.bel⟩
theorem victim_any {w : World} {g : Nat} {ls : Nat → List Nat} (h : GAt w g ls) (hok : GOk ls) (who : Nat) (hw : who < 16) (va : Value) (ages : List Nat) (ha : Sl w va ages.length (ageC ages)) :
    Calls Try.prog 33 #[.pointer (some ⟨g, 0, none⟩), .int .i64 (who : Int), va] w fun e w' => e = .returned (.int .i64 (vict ages (circK ls who 16)).1) ∧ Below w.heap.size w w' :=
  victim_of _ _ (circK_len ls who 16) (circle_any h hok who hw) va ages ha
theorem victim_out {w : World} (p : Option Addr) (who : Int) (hw : p = none ∨ ¬ (0 ≤ who ∧ who < 16)) (va : Value) (ages : List Nat) (ha : Sl w va ages.length (ageC ages)) :
    Calls Try.prog 33 #[.pointer p, .int .i64 who, va] w fun e w' => e = .returned (.int .i64 (-1)) ∧ Below w.heap.size w w' :=
  victim_of (C := []) p who (by decide) ((circle_out p who hw w).mono fun e w' ⟨he, hw⟩ => ⟨_, he, by subst hw; exact (Hp.none_ w []).rowNil 3 1⟩) va ages ha
end Go.Proofs.Ytmlphodmbkceoab.wait
