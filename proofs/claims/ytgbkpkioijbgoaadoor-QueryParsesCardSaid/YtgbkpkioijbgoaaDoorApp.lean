/- append of a slice, of whatever length, to a row that is held; append of nothing but zero values (slices.Grow). No condition. -/
import Derived.Test.YtgbkpkioijbgoaaDoorHp
import Derived.Laws.AppendOwnNone
import Derived.Lib.AppendZeros
namespace Go.Proofs.YtgbkpkioijbgoaaDoor
open Go.RowKit
set_option linter.unusedVariables false
set_option maxRecDepth 100000

theorem run_append_owned_zero {P : Program} {w : World} (base : Nat) (t ty e : TypeId) (i : TypeInfo) (size : Nat) (ht : P.underlying t = some (.slice e)) (hi : P.info? e = some i)
    (v : Value) (n : Nat) (xs : List Value) (hown : w.ownsRow base e size v n xs) (ad : Option Addr) (c : Nat) :
    (Builtin.append_ #[t, t] ty #[v, .slice ad 0 c]).run P w = .ok v w := by
  rcases hown.2 with ⟨rfl, rfl⟩ | ⟨g, cap, cur, rfl, _, _, hnc, _⟩
  · cases ad <;> simp [Builtin.append_, run_underlying ht, sizeOf, typeInfo, hi, Builtin.lenOf, Builtin.firstCells, loadCells, loadCellsFrom, Result.andThen]
  · cases ad <;> simp [Builtin.append_, run_underlying ht, sizeOf, typeInfo, hi, Builtin.lenOf, Builtin.firstCells, hnc, storeCells, loadCells, loadCellsFrom, Result.andThen]
/-- 'append(v, x...)' -/
theorem wpList_append_sl_hp {w W : World} {X : List Nat} {rs : List Rs} {ops : Array Oper} {rest : List Oper} {o : Oper} {a : Act} {Q : Exit → Act → World → Prop} (hgd : o.guard = none) (s x : Operand) {t e : TypeId} {z : Value} {size bytes : Nat}
    (ho : o.op = .call { callee := .builtin .append, args := #[s, x], argTypes := #[t, t] })
    (ht : Tryd.prog.underlying t = some (.slice e)) (hI : (Tryd.prog.info? e).map (fun i => (i.zero, i.size, i.bytes)) = some (some z, size, bytes)) (hzs : z.cells.size = size) (hsz : 0 < size) (hby : bytes ≤ 1000)
    (h : Hp w X rs W) (i : Nat) {v : Value} {n : Nat} {xs : List Value} (hi : rs[i]? = some (.row e size v n xs)) (hs : a.eval s = v) {xv : Value} {m : Nat} {ys : List Value} (hx : a.eval x = xv) (hsl : Sl W xv m ys)
    (hys : ys.length = m * size) (h1 : ∀ u ∈ ys, u.oneCell' = true) (hl : n + m ≤ 100000000)
    (hn : ∀ v' W', Hp w X (rs.set i (.row e size v' (n + m) (xs ++ ys))) W' → (∃ ad cap, v' = .slice ad (n + m) cap) → wpList Tryd.prog ops Q rest (a.put o.dst v') W') : wpList Tryd.prog ops Q (o :: rest) a W := by
  obtain ⟨inf, hi2, hz, hsz2, hby2⟩ := info_parts hI
  have hm : (n + m) * bytes ≤ 100000000 * 1000 := Nat.mul_le_mul (by omega) hby
  obtain ⟨ad, c, rfl, hmx, hc⟩ := hsl
  by_cases h0 : m = 0
  · subst h0
    have hy0 : ys = [] := List.length_eq_zero_iff.1 (by simpa using hys)
    subst hy0
    have hrun := run_append_owned_zero (P := Tryd.prog) (w := W) 0 t o.type e inf size ht hi2 v n xs (h.row hi) ad c
    obtain ⟨ad2, c2, rfl⟩ := rowShape (h.row hi)
    refine Lib.wpList_append_run W hgd s x t t ho _ _ hs hx _ _ hrun (hn _ _ ?_ ⟨_, _, rfl⟩)
    rw [List.append_nil, Nat.add_zero]
    have : rs.set i (.row e size (.slice ad2 n c2) n xs) = rs := by
      apply List.ext_getElem?; intro j
      by_cases hj : i = j
      · subst hj
        rw [List.getElem?_set_self (List.getElem?_eq_some_iff.1 hi).1, hi]
      · rw [List.getElem?_set_ne hj]
    rw [this]; exact h
  · obtain ⟨b, o', rfl, hr⟩ := hc.resolve_left h0
    refine wpList_append_lies W hgd s x t ho 0 e inf z size bytes ht hi2 hz hsz2 hby2 hzs hsz v n xs hs (h.row hi) ⟨b, o', none⟩ m c ys hx (by omega) ?_ h1 (by omega) (by unfold maxLen; omega) (by omega) (Nat.zero_le _) W.heap.size rfl ?_
    · intro j u hj
      rw [addr_add]
      exact hr.2 j u hj
    · intro g' cap w' h2 h3 h4 h5
      exact hn _ _ (h.grown hi h2 h3 h4 h5) ⟨_, _, rfl⟩
theorem zeros_size (a : Array Value) (k : Nat) : (Builtin.zeroCells a k).size = k * a.size := by
  simp [Builtin.zeroCells, Nat.mul_comm]
/-- 'append(nil, make([]T, k)...)': a new row of k zero values; of it the first none -/
theorem append_zeros {w W : World} {X : List Nat} {rs : List Rs} {t tn ty e : TypeId} {z : Value} {size bytes : Nat} {kq kn : IntKind}
    (ht : Tryd.prog.underlying t = some (.slice e)) (htn : Tryd.prog.underlying tn = some (.int kn)) (hI : (Tryd.prog.info? e).map (fun i => (i.zero, i.size, i.bytes)) = some (some z, size, bytes)) (hzs : z.cells.size = size) (hsz : 0 < size) (hby : bytes ≤ 1000)
    (h : Hp w X rs W) (k : Nat) (h0 : 0 < k) (hk : k ≤ 100000000) :
    ∃ cap cur, (Builtin.append_ #[t, tn] ty #[.slice none 0 0, .int kq k]).run Tryd.prog W = .ok (.slice (some ⟨W.heap.size, 0, none⟩) k cap) (W.drew.alloc (.cells cur e)) ∧ k ≤ cap ∧
      Hp w X (.row e size (.slice (some ⟨W.heap.size, 0, none⟩) 0 cap) 0 [] :: rs) (W.drew.alloc (.cells cur e)) := by
  obtain ⟨inf, hi2, hz, hsz2, hby2⟩ := info_parts hI
  have hm : k * bytes ≤ 100000000 * 1000 := Nat.mul_le_mul hk hby
  have hr := Lib.run_append_nil_zeros (P := Tryd.prog) W t tn ty e inf z kq kn ht htn hi2 hz k h0 (by omega) (by omega) (by rw [hby2]; omega)
  have hge := grownCap_ge W k 0 e
  have hle := grownCap_le_maxLen W k 0 e (by unfold maxLen; omega)
  refine ⟨_, _, hr, hge, h.drew.new _ (fp' := [W.heap.size]) ⟨⟨by simp, Or.inr ⟨W.heap.size, _, _, rfl, Nat.zero_le _, heap_alloc_new W.drew _, Nat.zero_le _, hle, ?_, by simp⟩⟩, rfl⟩ (by simp) ((Below.refl _ _).alloc (Nat.le_refl _) _) (by simp)⟩
  rw [Array.size_append, zeros_size, zeros_size, hzs, ← Nat.add_mul]
  congr 1; omega
end Go.Proofs.YtgbkpkioijbgoaaDoor
