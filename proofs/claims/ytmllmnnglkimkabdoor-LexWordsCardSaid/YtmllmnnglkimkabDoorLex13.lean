/- The words of any text are the document's, or where it is wrong: the law LexWords. The table of marks is a premise. No other condition. -/
import Derived.Test.YtmllmnnglkimkabDoorLex12
import Derived.Laws.StructEq
import Derived.BigQuiet
import Derived.Deep.QuietTactic
namespace Go.Proofs.YtmllmnnglkimkabDoor.lex
open Go.RowKit
attribute [local go_sem ↓] Go.wp_at_zero Go.wp_at_succ
attribute [local go_sem] str_size
set_option linter.unusedVariables false
set_option maxRecDepth 100000

theorem allcells_at : ∀ (ws : List W) (i : Nat) (x : W), ws[i]? = some x → ∀ j, j < 4 → (allcells ws)[i * 4 + j]? = (wcells x)[j]?
  | [], i, x, h => by simp at h
  | y :: ws, 0, x, h => by
    intro j hj
    simp at h; subst h
    have : allcells (y :: ws) = wcells y ++ allcells ws := by simp [allcells]
    rw [this, Nat.zero_mul, Nat.zero_add, List.getElem?_append_left (by simp [wcells]; omega)]
  | y :: ws, i + 1, x, h => by
    intro j hj
    have h2 : ws[i]? = some x := by simpa using h
    have : allcells (y :: ws) = wcells y ++ allcells ws := by simp [allcells]
    rw [this, List.getElem?_append_right (by simp [wcells]; omega)]
    have := allcells_at ws i x h2 j hj
    rw [← this]
    congr 1
    simp [wcells]; omega
/-- a slice of these words, nil where there are none -/
def WSl (w : World) (v : Value) (ws : List W) : Prop := (ws = [] ∧ ∃ a cap, v = .slice a 0 cap) ∨ (∃ b cap, v = .slice (some ⟨b, 0, none⟩) ws.length cap ∧ b < w.heap.size ∧ ∀ i x, ws[i]? = some x → w.cell? ⟨b, i * 4, none⟩ = some (.int .i64 (x.kind : Int)) ∧ w.cell? ⟨b, i * 4 + 1, none⟩ = some (.string (str x.s)) ∧ w.cell? ⟨b, i * 4 + 2, none⟩ = some (.int .i64 (x.n : Int)) ∧ w.cell? ⟨b, i * 4 + 3, none⟩ = some (.int .i64 (x.pos : Int)))
theorem WSl.below {w w' : World} {v : Value} {ws : List W} (h : WSl w v ws) (k : Below w.heap.size w w') : WSl w' v ws := by
  rcases h with h | ⟨b, cap, hv, hb, hc⟩
  · exact Or.inl h
  · refine Or.inr ⟨b, cap, hv, Nat.lt_of_lt_of_le hb k.size, fun i x hx => ?_⟩
    obtain ⟨h0, h1, h2, h3⟩ := hc i x hx
    exact ⟨(k.cell hb).trans h0, (k.cell hb).trans h1, (k.cell hb).trans h2, (k.cell hb).trans h3⟩
theorem WRow.sl {w : World} {base : Nat} {v : Value} {ws : List W} (h : WRow w base v ws) (hne : ws ≠ []) : WSl w v ws := by
  obtain ⟨b, cap, hv, _, hb, hc⟩ := h.open hne
  refine Or.inr ⟨b, cap, hv, hb, fun i x hx => ?_⟩
  have ha := allcells_at ws i x hx
  exact ⟨hc _ _ ((ha 0 (by decide)).trans rfl), hc _ _ ((ha 1 (by decide)).trans rfl), hc _ _ ((ha 2 (by decide)).trans rfl), hc _ _ ((ha 3 (by decide)).trans rfl)⟩
theorem same_none (a b : Option Addr) (c d : Nat) (w : World) : Calls Tryd.prog 15 #[.slice a 0 c, .slice b 0 d] w fun e w' => e = .returned (.bool true) ∧ Below w.heap.size w w' := by
  go_enter Tryd.func15, Tryd.ntmps15
  go_wp2
  go_loopg [5] 0 (fun gn s5 wr => s5 = .int .i64 0 ∧ wr = w)
  case atStart => exact ⟨rfl, rfl⟩
  case round =>
    obtain ⟨rfl, rfl⟩ := hrel
    go_wp2
    go_ret
    exact ⟨rfl, Below.refl _ _⟩
set_option maxHeartbeats 2000000 in
theorem same_some (ws : List W) (hl : ws.length ≤ 1001) (a b c d : Nat) (w : World)
    (ha : ∀ i x, ws[i]? = some x → w.cell? ⟨a, i * 4, none⟩ = some (.int .i64 (x.kind : Int)) ∧ w.cell? ⟨a, i * 4 + 1, none⟩ = some (.string (str x.s)) ∧ w.cell? ⟨a, i * 4 + 2, none⟩ = some (.int .i64 (x.n : Int)) ∧ w.cell? ⟨a, i * 4 + 3, none⟩ = some (.int .i64 (x.pos : Int)))
    (hb : ∀ i x, ws[i]? = some x → w.cell? ⟨b, i * 4, none⟩ = some (.int .i64 (x.kind : Int)) ∧ w.cell? ⟨b, i * 4 + 1, none⟩ = some (.string (str x.s)) ∧ w.cell? ⟨b, i * 4 + 2, none⟩ = some (.int .i64 (x.n : Int)) ∧ w.cell? ⟨b, i * 4 + 3, none⟩ = some (.int .i64 (x.pos : Int))) :
    Calls Tryd.prog 15 #[.slice (some ⟨a, 0, none⟩) ws.length c, .slice (some ⟨b, 0, none⟩) ws.length d] w fun e w' => e = .returned (.bool true) ∧ Below w.heap.size w w' := by
  obtain ⟨L, hL⟩ : ∃ L, L = ws.length := ⟨_, rfl⟩
  rw [← hL] at hl ⊢
  replace ha := Lib.hid ha; replace hb := Lib.hid hb; replace hL := Lib.hid hL
  have hl2 := Lib.hid hl
  clear hl
  go_enter Tryd.func15, Tryd.ntmps15
  go_wp2
  go_loopg [5] L (fun gn s5 wr => ∃ i : Nat, s5 = .int .i64 (i : Int) ∧ i + gn = L ∧ (∀ p, wr.cell? p = w.cell? p) ∧ Below w.heap.size w wr)
  case atStart => exact ⟨0, rfl, by omega, fun _ => rfl, Below.refl _ _⟩
  case round =>
    obtain ⟨i, rfl, hi, hcs, hbel⟩ := hrel
    replace hcs := Lib.hid hcs; replace hbel := Lib.hid hbel
    by_cases hk : gk = 0
    · subst hk
      obtain rfl : i = L := by omega
      have hlt : ¬ (i : Int) < (i : Int) := by omega
      clear hi
      go_wp2
      go_ret
      exact ⟨rfl, hbel.out⟩
    · obtain ⟨K, rfl⟩ : ∃ K : Nat, gk = K + 1 := ⟨gk - 1, by omega⟩
      have hiL : i < L := by omega
      obtain ⟨x, hx⟩ : ∃ x, ws[i]? = some x := ⟨_, List.getElem?_eq_getElem (by have := hL.out; omega)⟩
      have i0 : (0 : Int) ≤ (i : Int) := by omega
      have i1 : (i : Int) < (L : Int) := by omega
      have i3 : IntKind.i64.wrap ((i : Int) + 1) = (i : Int) + 1 := by have := hl2.out; rw [IntKind.wrap_i64]; omega
      obtain ⟨a0, a1, a2, a3⟩ := ha.out i x hx
      obtain ⟨b0, b1, b2, b3⟩ := hb.out i x hx
      obtain ⟨T, hT⟩ : ∃ T, T = str x.s := ⟨_, rfl⟩
      rw [← hT] at a1 b1
      have t1 : (T.toList == T.toList) = true := by simp
      have c0 := (hcs.out _).trans a0; have c1 := (hcs.out _).trans a1; have c2 := (hcs.out _).trans a2; have c3 := (hcs.out _).trans a3
      have d0 := (hcs.out _).trans b0; have d1 := (hcs.out _).trans b1; have d2 := (hcs.out _).trans b2; have d3 := (hcs.out _).trans b3
      clear hx hT hk a0 a1 a2 a3 b0 b1 b2 b3
      go_wp2
      go_quiet (fail)
      go_wp2
      have hcs2 : ∀ p, (wr.drewN nq).cell? p = w.cell? p := hcs.out
      have hb2 : Below w.heap.size w (wr.drewN nq) := belowDrewN hbel.out nq
      replace hcs2 := Lib.hid hcs2; replace hb2 := Lib.hid hb2
      go_roundg K
      case measure => omega
      case rel => exact ⟨i + 1, by go_num, by omega, hcs2.out, hb2.out⟩
theorem same_any (ws : List W) (hl : ws.length ≤ 1001) (u v : Value) (w : World) (hu : WSl w u ws) (hv : WSl w v ws) : Calls Tryd.prog 15 #[u, v] w fun e w' => e = .returned (.bool true) ∧ Below w.heap.size w w' := by
  rcases hu with ⟨h0, a, c, rfl⟩ | ⟨a, c, rfl, _, hca⟩
  · subst h0
    rcases hv with ⟨_, b, d, rfl⟩ | ⟨b, d, rfl, _, _⟩
    · exact same_none _ _ _ _ w
    · exact same_none _ _ _ _ w
  · rcases hv with ⟨h0, b, d, rfl⟩ | ⟨b, d, rfl, _, hcb⟩
    · subst h0
      exact same_none _ _ _ _ w
    · exact same_some ws hl a b c d w hca hcb
theorem wordsF_ne : ∀ (f : Nat) (l : List UInt8) (pos : Nat) (acc ws : List W) (k : Nat), wordsF f l pos acc = (some ws, k) → ws ≠ [] ∧ k = 0
  | 0, l, pos, acc, ws, k, h => by simp [wordsF] at h; obtain ⟨rfl, rfl⟩ := h; simp
  | f + 1, [], pos, acc, ws, k, h => by simp [wordsF] at h; obtain ⟨rfl, rfl⟩ := h; simp
  | f + 1, c :: r, pos, acc, ws, k, h => by
    rw [wordsF] at h
    split at h
    · exact wordsF_ne f _ _ _ _ _ h
    · split at h
      · simp at h
      · exact wordsF_ne f _ _ _ _ _ h
set_option maxHeartbeats 4000000 in
theorem lexWords_walk (a0 : ByteArray) (w : World) (w0 : a0.size ≤ maxLen) (hM : MarksAt w) :
    Calls Tryd.prog 5 #[.string a0] w fun e w' => e = .returned (.bool true) ∧ Below w.heap.size w w' := by
  have ht : a0.extract 0 (min (a0.size : Int) 1100).toNat = str (a0.data.toList.take 1100) := cut_min a0 1100
  obtain ⟨t, ht0⟩ : ∃ k, k = a0.data.toList.take 1100 := ⟨_, rfl⟩
  rw [← ht0] at ht
  have b1 : (0 : Int) ≤ min (a0.size : Int) 1100 := by omega
  have b2 : min (a0.size : Int) 1100 ≤ (a0.size : Int) := by omega
  clear w0 ht0
  replace hM := Lib.hid hM
  have hbb := Lib.hid (Below.refl w.heap.size w)
  by_cases hle : t.length ≤ 1000
  · have cw0 := fun w' hM' => words_any t hle w' hM'
    have cr0 := fun w' => rwords_any t hle w'
    cases hres : wordsL t with
    | mk o k =>
      cases o with
      | none =>
        have cw : ∀ w', MarksAt w' → Calls Tryd.prog 10 #[.string (str t)] w' fun e w2 => e = .returned (.tuple #[.slice none 0 0, .int .i64 (k : Int), .int .i64 320]) ∧ Below w'.heap.size w' w2 := fun w' hM' => (cw0 w' hM').mono fun e w2 h => by rw [hres] at h; exact ⟨h.2, h.1⟩
        have cr : ∀ w', Calls Tryd.prog 14 #[.string (str t)] w' fun e w2 => e = .returned (.tuple #[.slice none 0 0, .int .i64 (k : Int), .int .i64 320]) ∧ Below w'.heap.size w' w2 := fun w' => (cr0 w').mono fun e w2 h => by rw [hres] at h; exact ⟨h.2, h.1⟩
        clear cw0 cr0 hres hle
        replace cw := Lib.hid cw; replace cr := Lib.hid cr
        go_enter Tryd.func5, Tryd.ntmps5
        go_wp2_with (first
          | (go_at_call 10; (try rw [ht]); (with_reducible refine (cw.out _ (hM.out.keep hbb.out)).mono ?_); rintro e w1 ⟨rfl, b1⟩; replace hbb := Lib.hid (belowCont hbb.out b1); clear b1)
          | (go_at_call 14; (try rw [ht]); (with_reducible refine (cr.out _).mono ?_); rintro e w1 ⟨rfl, b1⟩; replace hbb := Lib.hid (belowCont hbb.out b1); clear b1)
          | (go_at_call 11; (with_reducible refine (awake_any _ (hM.out.keep hbb.out)).mono ?_); rintro e w1 ⟨rfl, b1⟩; replace hbb := Lib.hid (belowCont hbb.out b1); clear b1)
          | (go_at_call 15; (with_reducible refine (same_none _ _ _ _ _).mono ?_); rintro e w1 ⟨rfl, b1⟩; replace hbb := Lib.hid (belowCont hbb.out b1); clear b1))
        go_ret
        exact ⟨rfl, hbb.out⟩
      | some ws =>
        obtain ⟨hne, hk0⟩ := wordsF_ne _ _ _ _ _ _ hres
        have cw : ∀ w', MarksAt w' → Calls Tryd.prog 10 #[.string (str t)] w' fun e w2 => ∃ v, e = .returned (.tuple #[v, .int .i64 0, .int .i64 0]) ∧ WSl w2 v ws ∧ ws.length ≤ 1001 ∧ Below w'.heap.size w' w2 := fun w' hM' => (cw0 w' hM').mono fun e w2 h => by
          rw [hres] at h
          obtain ⟨hb, v, he, hr, hl⟩ := h
          exact ⟨v, he, hr.sl hne, hl, hb⟩
        have cr : ∀ w', Calls Tryd.prog 14 #[.string (str t)] w' fun e w2 => ∃ v, e = .returned (.tuple #[v, .int .i64 0, .int .i64 0]) ∧ WSl w2 v ws ∧ Below w'.heap.size w' w2 := fun w' => (cr0 w').mono fun e w2 h => by
          rw [hres] at h
          obtain ⟨hb, v, he, hr, hl⟩ := h
          exact ⟨v, he, hr.sl hne, hb⟩
        clear cw0 cr0 hres hle hk0 hne
        replace cw := Lib.hid cw; replace cr := Lib.hid cr
        go_enter Tryd.func5, Tryd.ntmps5
        go_wp2_with (first
          | (go_at_call 10; (try rw [ht]); (with_reducible refine (cw.out _ (hM.out.keep hbb.out)).mono ?_); rintro e w1 ⟨v, rfl, hv, hl, b1⟩; replace hbb := Lib.hid (belowCont hbb.out b1); replace hv := Lib.hid hv; replace hl := Lib.hid hl; clear b1)
          | (go_at_call 14; (try rw [ht]); (with_reducible refine (cr.out _).mono ?_); rintro e w1 ⟨u, rfl, hu, b1⟩; replace hbb := Lib.hid (belowCont hbb.out b1); replace hv := Lib.hid (hv.out.below b1); replace hu := Lib.hid hu; clear b1)
          | (go_at_call 11; (with_reducible refine (awake_any _ (hM.out.keep hbb.out)).mono ?_); rintro e w1 ⟨rfl, b1⟩; replace hbb := Lib.hid (belowCont hbb.out b1); replace hv := Lib.hid (hv.out.below b1); replace hu := Lib.hid (hu.out.below b1); clear b1)
          | (go_at_call 15; (with_reducible refine (same_any ws hl.out _ _ _ hv.out hu.out).mono ?_); rintro e w1 ⟨rfl, b1⟩; replace hbb := Lib.hid (belowCont hbb.out b1); clear b1))
        go_ret
        exact ⟨rfl, hbb.out⟩
  · have cw : ∀ w', Calls Tryd.prog 10 #[.string (str t)] w' fun e w2 => e = .returned (.tuple #[.slice none 0 0, .int .i64 0, .int .i64 4]) ∧ Below w'.heap.size w' w2 := fun w' => words_long t (by omega) w'
    have cr : ∀ w', Calls Tryd.prog 14 #[.string (str t)] w' fun e w2 => e = .returned (.tuple #[.slice none 0 0, .int .i64 0, .int .i64 4]) ∧ Below w'.heap.size w' w2 := fun w' => rwords_long t (by omega) w'
    clear hle
    replace cw := Lib.hid cw; replace cr := Lib.hid cr
    go_enter Tryd.func5, Tryd.ntmps5
    go_wp2_with (first
      | (go_at_call 10; (try rw [ht]); (with_reducible refine (cw.out _).mono ?_); rintro e w1 ⟨rfl, b1⟩; replace hbb := Lib.hid (belowCont hbb.out b1); clear b1)
      | (go_at_call 14; (try rw [ht]); (with_reducible refine (cr.out _).mono ?_); rintro e w1 ⟨rfl, b1⟩; replace hbb := Lib.hid (belowCont hbb.out b1); clear b1)
      | (go_at_call 11; (with_reducible refine (awake_any _ (hM.out.keep hbb.out)).mono ?_); rintro e w1 ⟨rfl, b1⟩; replace hbb := Lib.hid (belowCont hbb.out b1); clear b1)
      | (go_at_call 15; (with_reducible refine (same_none _ _ _ _ _).mono ?_); rintro e w1 ⟨rfl, b1⟩; replace hbb := Lib.hid (belowCont hbb.out b1); clear b1))
    go_ret
    exact ⟨rfl, hbb.out⟩
end Go.Proofs.YtmllmnnglkimkabDoor.lex
