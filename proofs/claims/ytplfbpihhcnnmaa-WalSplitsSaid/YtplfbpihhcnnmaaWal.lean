/- Records of the log (package wal): which may be. No condition but the slice's cells. -/
import Derived.Test.YtplfbpihhcnnmaaSl
import Derived.Test.YtplfbpihhcnnmaaCodePuts
namespace Go.Proofs.Ytplfbpihhcnnmaa.wal
open Go.RowKit
attribute [local go_sem ↓] Go.wp_at_zero Go.wp_at_succ
attribute [local go_sem] str_size str_bl
set_option linter.unusedVariables false
set_option maxRecDepth 100000

/-- a change: key, value, gone -/
structure Ch where
  k : List UInt8
  v : List UInt8
  g : Bool
def chC (c : Ch) : List Value := [.string (str c.k), .string (str c.v), .bool c.g]
theorem chC_len (c : Ch) : (chC c).length = 3 := rfl
def chCells (l : List Ch) : List Value := l.flatMap chC
def chOk (c : Ch) : Bool := decide (1 ≤ c.k.length ∧ c.k.length ≤ 96 ∧ c.v.length ≤ 4096 ∧ (c.g = true → c.v = []))
def mayL (l : List Ch) : Bool := decide (1 ≤ l.length ∧ l.length ≤ 256) && l.all chOk
theorem take_all {α : Type} (p : α → Bool) (l : List α) (i : Nat) (x : α) (hx : l[i]? = some x) : (l.take (i + 1)).all p = ((l.take i).all p && p x) := by
  rw [List.take_add_one, hx]; simp
theorem all_take {α : Type} (p : α → Bool) (l : List α) (i : Nat) (hi : i = l.length) (h : (l.take i).all p = true) : l.all p = true := by subst hi; rwa [List.take_length] at h
theorem all_not {α : Type} (p : α → Bool) (l : List α) (i : Nat) (x : α) (hx : l[i]? = some x) (h : p x = false) : l.all p = false := by
  rw [List.all_eq_false]; exact ⟨x, List.mem_of_getElem? hx, by simp [h]⟩
theorem ne_nil {l : List UInt8} (h : l ≠ []) : l.isEmpty = false ∧ ((l == []) = false) := by cases l <;> simp at h ⊢
theorem ok_cases (c : Ch) : (chOk c = false ∧ c.k = []) ∨ (chOk c = false ∧ c.k ≠ [] ∧ (96 : Int) < c.k.length) ∨ (chOk c = false ∧ c.k ≠ [] ∧ ¬ (96 : Int) < c.k.length ∧ (4096 : Int) < c.v.length) ∨ (chOk c = false ∧ c.k ≠ [] ∧ ¬ (96 : Int) < c.k.length ∧ ¬ (4096 : Int) < c.v.length ∧ c.g = true ∧ c.v ≠ []) ∨ (chOk c = true ∧ c.k ≠ [] ∧ ¬ (96 : Int) < c.k.length ∧ ¬ (4096 : Int) < c.v.length ∧ (c.g = true → c.v = [])) := by
  cases h : chOk c <;> simp only [chOk, decide_eq_true_eq, decide_eq_false_iff_not] at h
  · by_cases h0 : c.k = []
    · exact Or.inl ⟨rfl, h0⟩
    · have := List.length_pos_iff.2 h0
      by_cases h1 : (96 : Int) < c.k.length
      · exact Or.inr (Or.inl ⟨rfl, h0, h1⟩)
      · by_cases h2 : (4096 : Int) < c.v.length
        · exact Or.inr (Or.inr (Or.inl ⟨rfl, h0, h1, h2⟩))
        · refine Or.inr (Or.inr (Or.inr (Or.inl ⟨rfl, h0, h1, h2, ?_⟩)))
          have h3 : ¬ (c.g = true → c.v = []) := fun h3 => h ⟨by omega, by omega, by omega, h3⟩
          cases hg : c.g <;> simp [hg] at h3 ⊢
          exact h3
  · obtain ⟨a, b, d, e⟩ := h
    refine Or.inr (Or.inr (Or.inr (Or.inr ⟨rfl, ?_, by omega, by omega, e⟩)))
    rintro h0; rw [h0] at a; simp at a
theorem may_few (v : Value) (l : List Ch) (w : World) (h : Sl w v l.length (chCells l)) (hn : l.length < 1 ∨ 256 < l.length) : Calls Try.prog 93 #[v] w fun e w' => e = .returned (.bool (mayL l)) ∧ Below w.heap.size w w' := by
  have hm : mayL l = false := by unfold mayL; rw [Bool.and_eq_false_iff]; left; simp; omega
  rw [hm]
  obtain ⟨a, cap, rfl, hmax, _⟩ := h
  generalize l.length = n at *
  rcases hn with hn | hn
  · have h1 : (n : Int) < 1 := by omega
    clear hn hmax hm
    go_enter Try.func93, Try.ntmps93
    go_wp2
    go_ret
    exact ⟨rfl, Below.refl _ _⟩
  · have h1 : ¬ (n : Int) < 1 := by omega
    have h2 : (256 : Int) < (n : Int) := by omega
    clear hn hmax hm
    go_enter Try.func93, Try.ntmps93
    go_wp2
    go_ret
    exact ⟨rfl, Below.refl _ _⟩
set_option maxHeartbeats 2000000 in
theorem may_some (v : Value) (l : List Ch) (w : World) (h : Sl w v l.length (chCells l)) (hn1 : 1 ≤ l.length) (hn2 : l.length ≤ 256) : Calls Try.prog 93 #[v] w fun e w' => e = .returned (.bool (mayL l)) ∧ Below w.heap.size w w' := by
  have hm : mayL l = l.all chOk := by unfold mayL; rw [decide_eq_true ⟨hn1, hn2⟩, Bool.true_and]
  rw [hm]
  obtain ⟨a, cap, rfl, hmax, h⟩ := h
  obtain ⟨b, o, rfl, hr⟩ := h.resolve_left (by omega)
  obtain ⟨n, hln⟩ : ∃ n, n = l.length := ⟨_, rfl⟩
  rw [← hln] at hn1 hn2 ⊢
  have q1 : ¬ (n : Int) < 1 := by omega
  have q2 : ¬ (256 : Int) < (n : Int) := by omega
  obtain ⟨R, hR⟩ : ∃ R, l.all chOk = R := ⟨_, rfl⟩
  rw [hR]
  replace hr := Lib.hid hr; replace hln := Lib.hid hln; replace hR := Lib.hid hR
  clear hmax h hm
  go_enter Try.func93, Try.ntmps93
  go_wp2
  go_loopw [15] (fun i wr => ∃ k : Nat, k ≤ n ∧ i = .int .i64 k ∧ (l.take k).all chOk = true ∧ Below w.heap.size w wr) (fun i _ => n - (intOf i).toNat)
  case atStart => exact ⟨0, by omega, rfl, by simp, Below.refl _ _⟩
  case round =>
    obtain ⟨k, hk, rfl, hall, hbel⟩ := hrel
    replace hall := Lib.hid hall; replace hbel := Lib.hid hbel
    by_cases hlt : k < n
    · obtain ⟨⟨ck, cv, cg⟩, hx⟩ : ∃ x, l[k]? = some x := ⟨_, List.getElem?_eq_getElem (by have := hln.out; omega)⟩
      have d0 : wr.cell? ⟨b, o + k * 3, none⟩ = some (.string (str ck)) := (hbel.out.cell hr.out.1).trans (hr.out.elem0 chC_len hx rfl)
      have d1 : wr.cell? ⟨b, o + k * 3 + 1, none⟩ = some (.string (str cv)) := (hbel.out.cell hr.out.1).trans (hr.out.elem chC_len hx rfl)
      have d2 : wr.cell? ⟨b, o + k * 3 + 2, none⟩ = some (.bool cg) := (hbel.out.cell hr.out.1).trans (hr.out.elem chC_len hx rfl)
      have e1 : (0 : Int) ≤ (k : Int) := by omega
      have e2 : (k : Int) < (n : Int) := by omega
      have hb2 : Below w.heap.size w (wr.alloc (.cells #[.string (str ck), .string (str cv), .bool cg] 100)) := hbel.out.alloc hbel.out.size _
      replace hb2 := Lib.hid hb2
      have hno : chOk ⟨ck, cv, cg⟩ = false → R = false := fun h => hR.out.symm.trans (all_not chOk l k ⟨ck, cv, cg⟩ hx h)
      have hyes : chOk ⟨ck, cv, cg⟩ = true → (l.take (k + 1)).all chOk = true := fun h => by rw [take_all chOk l k _ hx, hall.out, h]; rfl
      replace hno := Lib.hid hno; replace hyes := Lib.hid hyes
      clear hx
      rcases ok_cases ⟨ck, cv, cg⟩ with ⟨hc, h0⟩ | ⟨hc, h0, h1⟩ | ⟨hc, h0, h1, h2⟩ | ⟨hc, h0, h1, h2, h3, h4⟩ | ⟨hc, h0, h1, h2, h3⟩
      · simp only at h0
        subst h0
        go_wp2
        go_ret
        exact ⟨by rw [hno.out hc]; rfl, hb2.out⟩
      · have k0 := ne_nil h0
        go_wp2
        go_ret
        exact ⟨by rw [hno.out hc]; rfl, hb2.out⟩
      · have k0 := ne_nil h0
        go_wp2
        go_ret
        exact ⟨by rw [hno.out hc]; rfl, hb2.out⟩
      · have k0 := ne_nil h0
        have k1 := ne_nil h4
        simp only at h3
        subst h3
        go_wp2
        go_ret
        exact ⟨by rw [hno.out hc]; rfl, hb2.out⟩
      · have k0 := ne_nil h0
        cases cg with
        | true =>
          have k1 := h3 rfl
          simp only at k1
          subst k1
          clear h3
          go_wp2
          go_roundw
          case rel => exact ⟨k + 1, by omega, by go_num, hyes.out hc, hb2.out⟩
          case measure => simp [intOf]; omega
        | false =>
          clear h3
          go_wp2
          go_roundw
          case rel => exact ⟨k + 1, by omega, by go_num, hyes.out hc, hb2.out⟩
          case measure => simp [intOf]; omega
    · obtain rfl : k = n := by omega
      have hA := all_take chOk l k hln.out hall.out
      replace hA := Lib.hid hA
      go_wp2
      go_ret
      exact ⟨by rw [← hR.out, hA.out]; rfl, hbel.out⟩
theorem may_any (v : Value) (l : List Ch) (w : World) (h : Sl w v l.length (chCells l)) : Calls Try.prog 93 #[v] w fun e w' => e = .returned (.bool (mayL l)) ∧ Below w.heap.size w w' := by
  by_cases hn : l.length < 1 ∨ 256 < l.length
  · exact may_few v l w h hn
  · exact may_some v l w h (by omega) (by omega)
theorem mayL_of (l : List Ch) (h : l.all chOk = true) : mayL l = (decide (1 ≤ (l.length : Int)) && decide ((l.length : Int) ≤ 256)) := by
  unfold mayL; rw [h, Bool.and_true, Bool.eq_iff_iff]; simp only [decide_eq_true_eq, Bool.and_eq_true]; omega
theorem mayL_not (l : List Ch) (i : Nat) (x : Ch) (hx : l[i]? = some x) (h : chOk x = false) : mayL l = false := by
  unfold mayL; rw [all_not chOk l i x hx h, Bool.and_false]
set_option maxHeartbeats 2000000 in
theorem rmay_any (v : Value) (l : List Ch) (w : World) (h : Sl w v l.length (chCells l)) : Calls Try.prog 53 #[v] w fun e w' => e = .returned (.bool (mayL l)) ∧ Below w.heap.size w w' := by
  obtain ⟨a, cap, rfl, hmax, h⟩ := h
  obtain ⟨n, hln⟩ : ∃ n, n = l.length := ⟨_, rfl⟩
  rw [← hln] at hmax h ⊢
  obtain ⟨R, hR⟩ : ∃ R, mayL l = R := ⟨_, rfl⟩
  rw [hR]
  replace h := Lib.hid h; replace hln := Lib.hid hln; replace hR := Lib.hid hR
  go_enter Try.func53, Try.ntmps53
  go_wp2
  go_loopw [3] (fun i wr => ∃ k : Nat, k ≤ n ∧ i = .int .i64 k ∧ (l.take k).all chOk = true ∧ Below w.heap.size w wr) (fun i _ => n - (intOf i).toNat)
  case atStart => exact ⟨0, by omega, rfl, by simp, Below.refl _ _⟩
  case round =>
    obtain ⟨k, hk, rfl, hall, hbel⟩ := hrel
    replace hall := Lib.hid hall; replace hbel := Lib.hid hbel
    by_cases hlt : k < n
    · obtain ⟨b, o, rfl, hr⟩ := h.out.resolve_left (by omega)
      replace hr := Lib.hid hr
      obtain ⟨⟨ck, cv, cg⟩, hx⟩ : ∃ x, l[k]? = some x := ⟨_, List.getElem?_eq_getElem (by have := hln.out; omega)⟩
      have d0 : wr.cell? ⟨b, o + k * 3, none⟩ = some (.string (str ck)) := (hbel.out.cell hr.out.1).trans (hr.out.elem0 chC_len hx rfl)
      have d1 : wr.cell? ⟨b, o + k * 3 + 1, none⟩ = some (.string (str cv)) := (hbel.out.cell hr.out.1).trans (hr.out.elem chC_len hx rfl)
      have d2 : wr.cell? ⟨b, o + k * 3 + 2, none⟩ = some (.bool cg) := (hbel.out.cell hr.out.1).trans (hr.out.elem chC_len hx rfl)
      have e1 : (0 : Int) ≤ (k : Int) := by omega
      have e2 : (k : Int) < (n : Int) := by omega
      have hb2 : Below w.heap.size w (wr.alloc (.cells #[.string (str ck), .string (str cv), .bool cg] 100)) := hbel.out.alloc hbel.out.size _
      replace hb2 := Lib.hid hb2
      have hno : chOk ⟨ck, cv, cg⟩ = false → R = false := fun h => hR.out.symm.trans (mayL_not l k ⟨ck, cv, cg⟩ hx h)
      have hyes : chOk ⟨ck, cv, cg⟩ = true → (l.take (k + 1)).all chOk = true := fun h => by rw [take_all chOk l k _ hx, hall.out, h]; rfl
      replace hno := Lib.hid hno; replace hyes := Lib.hid hyes
      clear hx
      rcases ok_cases ⟨ck, cv, cg⟩ with ⟨hc, h0⟩ | ⟨hc, h0, h1⟩ | ⟨hc, h0, h1, h2⟩ | ⟨hc, h0, h1, h2, h3, h4⟩ | ⟨hc, h0, h1, h2, h3⟩
      · simp only at h0
        subst h0
        go_wp2
        go_ret
        exact ⟨by rw [hno.out hc]; rfl, hb2.out⟩
      · have k0 : ¬ (ck.length : Int) < 1 := by have := List.length_pos_iff.2 h0; simp only at this; omega
        clear h0
        go_wp2
        go_ret
        exact ⟨by rw [hno.out hc]; rfl, hb2.out⟩
      · have k0 : ¬ (ck.length : Int) < 1 := by have := List.length_pos_iff.2 h0; simp only at this; omega
        clear h0
        go_wp2
        go_ret
        exact ⟨by rw [hno.out hc]; rfl, hb2.out⟩
      · have k0 : ¬ (ck.length : Int) < 1 := by have := List.length_pos_iff.2 h0; simp only at this; omega
        have k1 : (0 : Int) < (cv.length : Int) := by have := List.length_pos_iff.2 h4; simp only at this; omega
        simp only at h3
        subst h3
        clear h0 h4
        go_wp2
        go_ret
        exact ⟨by rw [hno.out hc]; rfl, hb2.out⟩
      · have k0 : ¬ (ck.length : Int) < 1 := by have := List.length_pos_iff.2 h0; simp only at this; omega
        clear h0
        cases cg with
        | true =>
          have k1 := h3 rfl
          simp only at k1
          subst k1
          clear h3
          go_wp2
          go_roundw
          case rel => exact ⟨k + 1, by omega, by go_num, hyes.out hc, hb2.out⟩
          case measure => simp [intOf]; omega
        | false =>
          clear h3
          go_wp2
          go_roundw
          case rel => exact ⟨k + 1, by omega, by go_num, hyes.out hc, hb2.out⟩
          case measure => simp [intOf]; omega
    · obtain rfl : k = n := by omega
      have hA : R = (decide (1 ≤ (k : Int)) && decide ((k : Int) ≤ 256)) := by rw [← hR.out, mayL_of l (all_take chOk l k hln.out hall.out), ← hln.out]
      replace hA := Lib.hid hA
      by_cases g1 : (1 : Int) ≤ (k : Int)
      · by_cases g2 : (k : Int) ≤ 256
        · have hT : R = true := by rw [hA.out]; simp [g1, g2]
          replace hT := Lib.hid hT
          clear hA
          go_wp2
          go_ret
          exact ⟨by rw [hT.out]; rfl, hbel.out⟩
        · have hT : R = false := by rw [hA.out]; simp [g1, g2]
          replace hT := Lib.hid hT
          clear hA
          go_wp2
          go_ret
          exact ⟨by rw [hT.out]; rfl, hbel.out⟩
      · have hT : R = false := by rw [hA.out]; simp [g1]
        replace hT := Lib.hid hT
        clear hA
        go_wp2
        go_ret
        exact ⟨by rw [hT.out]; rfl, hbel.out⟩
end Go.Proofs.Ytplfbpihhcnnmaa.wal
