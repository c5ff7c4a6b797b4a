/- slices.Clone at labels and properties; slices.IndexFunc, slices.DeleteFunc at properties, whatever the closure. No condition but the lengths. -/
import Derived.Test.YtdgpalileloekaaDoorRecW1
import Derived.Test.YtdgpalileloekaaDoorHpTurn
import Derived.Test.YtdgpalileloekaaDoorAppS
import Derived.Deep.RegionLaw
namespace Go.Proofs.YtdgpalileloekaaDoor.recw
open Go.RowKit
attribute [local go_sem ↓] Go.wp_at_zero Go.wp_at_succ
set_option linter.unusedVariables false
set_option maxRecDepth 100000

def z0 : Value := .agg #[.int .i64 0, .int .i64 0, .int .i64 0, .string ⟨#[]⟩]
theorem pInfo : (Tryd.prog.info? 42).map (fun i => (i.zero, i.size, i.bytes)) = some (some z0, 4, 40) := by kernel_rfl
theorem iInfo : (Tryd.prog.info? 3).map (fun i => (i.zero, i.size, i.bytes)) = some (some (.int .i64 0), 1, 8) := by kernel_rfl
theorem eql_nil {P : Program} (w : World) (t e : TypeId) (a : Option Addr) (l c : Nat) (h : P.underlying t = some (.slice e)) : (binOp .eql t (.slice a l c) (.slice none 0 0)).run P w = .ok (.bool a.isNone) w := by
  have := run_equal_slice_nil (w := w) t e a l c h
  simp [binOp, this]
def RowV (w : World) (t : TypeId) (size n : Nat) (ys : List Value) (v : Value) (w' : World) : Prop := (∃ ad cp, v = .slice ad n cp) ∧ Hp w [] [.row t size v n ys] w'
theorem cloneP_any (v : Value) (m : Nat) (ys : List Value) (w : World) (h : Sl w v m ys) (hys : ys.length = m * 4) (h1 : ∀ u ∈ ys, u.oneCell' = true) (hm : m ≤ 1000000) :
    Calls Tryd.prog 55 #[v] w fun e w' => ∃ v', e = .returned v' ∧ RowV w 42 4 m ys v' w' := by
  unfold RowV
  have h0 := h
  obtain ⟨ad, c, rfl, hmx, hc⟩ := h
  cases ad with
  | none =>
    obtain rfl : m = 0 := by rcases hc with hc | ⟨b, o, hc, _⟩; exact hc; cases hc
    have hy0 : ys = [] := List.length_eq_zero_iff.1 (by simpa using hys)
    subst hy0
    have hp := Lib.hid ((Hp.none_ w []).rowNil 42 4)
    have heq : ∀ W : World, (binOp .eql 24 (.slice none 0 c) (.slice none 0 0)).run Tryd.prog W = .ok (.bool true) W := fun W => eql_nil W _ _ _ _ _ Tryd.underlying24
    clear h0 hc h1 hys
    go_enter Tryd.func55, Tryd.ntmps55
    go_wp2
    go_ret
    exact ⟨_, rfl, ⟨_, _, rfl⟩, hp.out⟩
  | some ad =>
    have hp := Lib.hid ((Hp.none_ w []).rowLit #[] 42 4 0 (by decide) rfl)
    have hsl := Lib.hid (h0.below ((Below.refl _ _).alloc (Nat.le_refl _) (.cells #[] 42)))
    have heq : ∀ W : World, (binOp .eql 24 (.slice (some ad) m c) (.slice none 0 0)).run Tryd.prog W = .ok (.bool false) W := fun W => eql_nil W _ _ _ _ _ Tryd.underlying24
    clear hc h0 hmx
    replace h1 := Lib.hid h1; replace hys := Lib.hid hys; replace hm := Lib.hid hm
    go_enter Tryd.func55, Tryd.ntmps55
    go_wp2_with (at_builtin; go_loud (refine wpList_append_sl_hp rfl _ _ rfl Tryd.underlying24 pInfo rfl (by decide) (by decide) hp.out 0 rfl rfl rfl hsl.out hys.out h1.out (by have := hm.out; omega) ?_; intro v2 w2 hp2 hv2; replace hp := Lib.hid hp2; clear hp2; obtain ⟨ad2, cp2, rfl⟩ := hv2))
    go_ret
    exact ⟨_, rfl, ⟨_, _, rfl⟩, by have := hp.out; simpa using this⟩
theorem cloneI_any (v : Value) (m : Nat) (ys : List Value) (w : World) (h : Sl w v m ys) (hys : ys.length = m * 1) (h1 : ∀ u ∈ ys, u.oneCell' = true) (hm : m ≤ 1000000) :
    Calls Tryd.prog 53 #[v] w fun e w' => ∃ v', e = .returned v' ∧ RowV w 3 1 m ys v' w' := by
  unfold RowV
  have h0 := h
  obtain ⟨ad, c, rfl, hmx, hc⟩ := h
  cases ad with
  | none =>
    obtain rfl : m = 0 := by rcases hc with hc | ⟨b, o, hc, _⟩; exact hc; cases hc
    have hy0 : ys = [] := List.length_eq_zero_iff.1 (by simpa using hys)
    subst hy0
    have hp := Lib.hid ((Hp.none_ w []).rowNil 3 1)
    have heq : ∀ W : World, (binOp .eql 22 (.slice none 0 c) (.slice none 0 0)).run Tryd.prog W = .ok (.bool true) W := fun W => eql_nil W _ _ _ _ _ Tryd.underlying22
    clear h0 hc h1 hys
    go_enter Tryd.func53, Tryd.ntmps53
    go_wp2
    go_ret
    exact ⟨_, rfl, ⟨_, _, rfl⟩, hp.out⟩
  | some ad =>
    have hp := Lib.hid ((Hp.none_ w []).rowLit #[] 3 1 0 (by decide) rfl)
    have hsl := Lib.hid (h0.below ((Below.refl _ _).alloc (Nat.le_refl _) (.cells #[] 3)))
    have heq : ∀ W : World, (binOp .eql 22 (.slice (some ad) m c) (.slice none 0 0)).run Tryd.prog W = .ok (.bool false) W := fun W => eql_nil W _ _ _ _ _ Tryd.underlying22
    clear hc h0 hmx
    replace h1 := Lib.hid h1; replace hys := Lib.hid hys; replace hm := Lib.hid hm
    go_enter Tryd.func53, Tryd.ntmps53
    go_wp2_with (at_builtin; go_loud (refine wpList_append_sl_hp rfl _ _ rfl Tryd.underlying22 iInfo rfl (by decide) (by decide) hp.out 0 rfl rfl rfl hsl.out hys.out h1.out (by have := hm.out; omega) ?_; intro v2 w2 hp2 hv2; replace hp := Lib.hid hp2; clear hp2; obtain ⟨ad2, cp2, rfl⟩ := hv2))
    go_ret
    exact ⟨_, rfl, ⟨_, _, rfl⟩, by have := hp.out; simpa using this⟩
theorem hmf (fn : Fn) (first cap : Array Value) (w : World) : (Instr.makeFunc fn first cap).run Tryd.prog w = .ok (.func fn first cap) w := rfl
set_option maxHeartbeats 2000000 in
/-- where the closure says yes the first time -/
theorem indexF_any (kf : Nat) (cap : Array Value) (p : Pr → Bool) (v : Value) (l : List Pr) (w : World) (h : Sl w v l.length (prC l)) (hn : l.length ≤ 100000) (hcf : ∀ (args : Array Value) (W : World), (callFunc kf args).run Tryd.prog W = .ok (.enter kf args) W)
    (hc : ∀ (x : Pr) (W : World), Below w.heap.size w W → Calls Tryd.prog kf (#[x.v] ++ cap) W fun e w' => e = .returned (.bool (p x)) ∧ Below W.heap.size W w') :
    Calls Tryd.prog 98 #[v, .func (.func kf) #[] cap] w fun e w' => (∃ k : Int, e = .returned (.int .i64 k) ∧ ((k = -1 ∧ ∀ x ∈ l, p x = false) ∨ ∃ i : Nat, k = (i : Int) ∧ ∃ x, l[i]? = some x ∧ p x = true ∧ ∀ y ∈ l.take i, p y = false)) ∧ Below w.heap.size w w' := by
  obtain ⟨a, cp, rfl, hmax, h⟩ := h
  obtain ⟨n, hln⟩ : ∃ n, n = l.length := ⟨_, rfl⟩
  rw [← hln] at hn hmax h ⊢
  replace h := Lib.hid h; replace hln := Lib.hid hln; replace hc := Lib.hid hc
  go_enter Tryd.func98, Tryd.ntmps98
  go_wp2
  go_loopw [8] (fun s8 wr => ∃ i : Nat, s8 = .int .i64 (i : Int) ∧ i ≤ n ∧ (∀ y ∈ l.take i, p y = false) ∧ Below w.heap.size w wr) (fun s8 _ => n - (intOf s8).toNat)
  case atStart => exact ⟨0, rfl, by omega, by simp, Below.refl _ _⟩
  case round =>
    obtain ⟨i, rfl, hi, hno, hb⟩ := hrel
    by_cases hlt : i < n
    · obtain ⟨b, o, rfl, hr⟩ := h.out.resolve_left (by omega)
      obtain ⟨x, hx⟩ : ∃ x, l[i]? = some x := ⟨_, List.getElem?_eq_getElem (by have := hln.out; omega)⟩
      have hcx := fun W hb => hc.out x W hb
      have hpx : ∃ q, p x = q := ⟨_, rfl⟩
      obtain ⟨q, hq⟩ := hpx
      rw [hq] at hcx
      have hx0 := hx
      obtain ⟨xk, xd, xn, xs⟩ := x
      have d0 : wr.cell? ⟨b, o + i * 4, none⟩ = some (.int .i64 xk) := (hb.cell hr.1).trans (hr.elem0 Pr.c_len hx rfl)
      have d1 : wr.cell? ⟨b, o + i * 4 + 1, none⟩ = some (.int .i64 xd) := (hb.cell hr.1).trans (hr.elem Pr.c_len hx rfl)
      have d2 : wr.cell? ⟨b, o + i * 4 + 2, none⟩ = some (.int .i64 xn) := (hb.cell hr.1).trans (hr.elem Pr.c_len hx rfl)
      have d3 : wr.cell? ⟨b, o + i * 4 + 3, none⟩ = some (.string xs) := (hb.cell hr.1).trans (hr.elem Pr.c_len hx rfl)
      have e1 : (0 : Int) ≤ (i : Int) := by omega
      have e2 : (i : Int) < (n : Int) := by omega
      change ∀ W, Below w.heap.size w W → Calls Tryd.prog kf (#[.agg #[.int .i64 xk, .int .i64 xd, .int .i64 xn, .string xs]] ++ cap) W fun e w' => e = .returned (.bool q) ∧ Below W.heap.size W w' at hcx
      replace hcx := Lib.hid hcx; replace hb := Lib.hid hb; replace hx0 := Lib.hid hx0; replace hq := Lib.hid hq; replace hno := Lib.hid hno
      clear hx hr
      cases q with
      | true =>
        go_wp2_with ((with_reducible refine (hcx.out _ hb.out).mono ?_); rintro e w1 ⟨rfl, b1⟩; replace hb := Lib.hid (belowCont hb.out b1); clear b1)
        go_ret
        exact ⟨⟨_, rfl, Or.inr ⟨i, rfl, _, hx0.out, hq.out, hno.out⟩⟩, hb.out⟩
      | false =>
        have hno2 : ∀ y ∈ l.take (i + 1), p y = false := by
          rw [List.take_add_one, hx0.out]
          intro y hy
          rcases List.mem_append.1 hy with hy | hy
          · exact hno.out y hy
          · simp at hy; subst hy; exact hq.out
        replace hno2 := Lib.hid hno2
        go_wp2_with ((with_reducible refine (hcx.out _ hb.out).mono ?_); rintro e w1 ⟨rfl, b1⟩; replace hb := Lib.hid (belowCont hb.out b1); clear b1)
        go_roundw
        case rel => exact ⟨i + 1, by go_num, by omega, hno2.out, hb.out⟩
        case measure => simp [intOf]; omega
    · obtain rfl : n = i := by omega
      have hall : ∀ x ∈ l, p x = false := by rw [List.take_of_length_le (by have := hln.out; omega)] at hno; exact hno
      replace hall := Lib.hid hall; replace hb := Lib.hid hb
      clear hno
      go_wp2
      go_ret
      exact ⟨⟨_, rfl, Or.inl ⟨rfl, hall.out⟩⟩, hb.out⟩
/-- clear of the end of a row: a row of the rest is left -/
theorem zc_len (m : Nat) : (Builtin.zeroCells z0.cells m).toList.length = m * 4 := by simp [Builtin.zeroCells, z0, Value.cells]
theorem zc_one (m : Nat) : ∀ u ∈ (Builtin.zeroCells z0.cells m).toList, u.oneCell' = true := by
  intro u hu
  obtain ⟨i, hi, rfl⟩ := List.mem_iff_getElem.1 hu
  have h4 : i % 4 < 4 := Nat.mod_lt _ (by decide)
  have h5 : i % 4 = 0 ∨ i % 4 = 1 ∨ i % 4 = 2 ∨ i % 4 = 3 := by omega
  simp only [Builtin.zeroCells, z0, Value.cells]
  rcases h5 with h | h | h | h <;> simp [h, Value.oneCell']
theorem run_clear4 (w : World) (g i m cp ty : Nat) (cur : Array Value) (hg : w.heap[g]? = some (.cells cur 42 (0, 0))) (hm : 0 < m) (hfit : i * 4 + m * 4 ≤ cur.size) :
    (Builtin.clear_ #[24] ty #[.slice (some ⟨g, i * 4, none⟩) m cp]).run Tryd.prog w = .ok (.tuple #[]) (w.setRow g (splice cur.toList (i * 4) (Builtin.zeroCells z0.cells m).toList).toArray) := by
  have hst := run_storeCells_at Tryd.prog g (i * 4) 42 (Builtin.zeroCells z0.cells m).toList 0 cur w hg (by rw [zc_len]; simpa using hfit) (zc_one m)
  have hz : ∀ w, (zeroValue 42).run Tryd.prog w = .ok z0 w := fun w => by kernel_rfl
  obtain ⟨k, rfl⟩ : ∃ k, m = k + 1 := ⟨m - 1, by omega⟩
  simp [Builtin.clear_, run_underlying Tryd.underlying24, hz, hst, splice]
theorem rowCut {W : World} {g n cap i : Nat} {Y : List Value} (h : W.ownsRow 0 42 4 (.slice (some ⟨g, 0, none⟩) n cap) n Y) (hi : i < n) :
    ∃ cur, W.heap[g]? = some (.cells cur 42 (0, 0)) ∧ i * 4 + (n - i) * 4 ≤ cur.size ∧ (W.setRow g (splice cur.toList (i * 4) (Builtin.zeroCells z0.cells (n - i)).toList).toArray).ownsRow 0 42 4 (.slice (some ⟨g, 0, none⟩) i cap) i (Y.take (i * 4)) := by
  rcases h.2 with ⟨h0, _⟩ | ⟨g', cap', cur, hv, hb, hg, h1, h2, h3, h4⟩
  · cases h0
  · injection hv with hv1 hv2 hv3
    injection hv1 with hv1
    injection hv1 with hv1
    subst hv1 hv3
    have hYl := h.1
    have hcl : cur.toList.length = cap * 4 := by simpa using h3
    have hz := zc_len (n - i)
    have hfit : i * 4 + (n - i) * 4 ≤ cur.size := by rw [h3]; omega
    refine ⟨cur, hg, hfit, ?_, Or.inr ⟨g, cap, _, rfl, hb, setRow_heap W g cur _ 42 _ hg, by omega, h2, ?_, ?_⟩⟩
    · rw [List.length_take]; omega
    · simp [length_splice cur.toList (i * 4) _ (by rw [hz, hcl]; omega), hcl]
    · unfold splice
      simp only
      rw [List.take_append_of_le_length (by rw [List.length_take]; omega), List.take_take, Nat.min_self, ← h4, List.take_take, Nat.min_eq_left (by omega)]
theorem keeps_row {W : World} {g : Nat} (cs : Array Value) : Keeps [g] W (W.setRow g cs) := keeps_setRow (Keeps.refl [g] W) (Or.inl (by simp)) cs
/-- four cells of a row are written -/
def set4 (Y : List Value) (a : Nat) (u0 u1 u2 u3 : Value) : List Value := (((Y.set a u0).set (a + 1) u1).set (a + 2) u2).set (a + 3) u3
theorem set4_len (Y : List Value) (a : Nat) (u0 u1 u2 u3 : Value) : (set4 Y a u0 u1 u2 u3).length = Y.length := by simp [set4]
theorem set4_at (Y : List Value) (a : Nat) (u0 u1 u2 u3 : Value) (j : Nat) (h : a + 4 ≤ Y.length) : (set4 Y a u0 u1 u2 u3)[j]? = if j = a then some u0 else if j = a + 1 then some u1 else if j = a + 2 then some u2 else if j = a + 3 then some u3 else Y[j]? := by
  unfold set4
  simp only [List.getElem?_set, List.length_set]
  by_cases h0 : j = a
  · subst h0; simp; omega
  · by_cases h1 : j = a + 1
    · subst h1; simp; omega
    · by_cases h2 : j = a + 2
      · subst h2; simp; omega
      · by_cases h3 : j = a + 3
        · subst h3; simp; omega
        · rw [if_neg (by omega), if_neg (by omega), if_neg (by omega), if_neg (by omega), if_neg h0, if_neg h1, if_neg h2, if_neg h3]
theorem set4_take (Y : List Value) (i : Nat) (u0 u1 u2 u3 : Value) (h : i * 4 + 4 ≤ Y.length) : (set4 Y (i * 4) u0 u1 u2 u3).take ((i + 1) * 4) = Y.take (i * 4) ++ [u0, u1, u2, u3] := by
  have hl : (Y.take (i * 4)).length = i * 4 := by rw [List.length_take]; omega
  apply List.ext_getElem?
  intro j
  rw [List.getElem?_take, List.getElem?_append, hl, List.getElem?_take]
  by_cases h1 : j < i * 4
  · rw [if_pos (by omega), if_pos h1, if_pos h1, set4_at _ _ _ _ _ _ _ h, if_neg (by omega), if_neg (by omega), if_neg (by omega), if_neg (by omega)]
  · rw [if_neg h1]
    by_cases h2 : j < (i + 1) * 4
    · rw [if_pos h2, set4_at _ _ _ _ _ _ _ h]
      have h3 : j = i * 4 ∨ j = i * 4 + 1 ∨ j = i * 4 + 2 ∨ j = i * 4 + 3 := by omega
      rcases h3 with rfl | rfl | rfl | rfl <;> simp
    · rw [if_neg h2, List.getElem?_eq_none (by simp; omega)]
theorem set4_drop (Y : List Value) (i b : Nat) (u0 u1 u2 u3 : Value) (h : i * 4 + 4 ≤ Y.length) (hb : i * 4 + 4 ≤ b) : (set4 Y (i * 4) u0 u1 u2 u3).drop b = Y.drop b := by
  apply List.ext_getElem?
  intro j
  rw [List.getElem?_drop, List.getElem?_drop, set4_at _ _ _ _ _ _ _ h, if_neg (by omega), if_neg (by omega), if_neg (by omega), if_neg (by omega)]
end Go.Proofs.YtdgpalileloekaaDoor.recw
