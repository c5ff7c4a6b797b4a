/- append of a slice, of whatever length, to a row that is held, in a region that draws its order. No condition. -/
import Derived.Test.YtgbkpkioijbgoaaDoorApp
namespace Go.Proofs.YtgbkpkioijbgoaaDoor
open Go.RowKit
set_option linter.unusedVariables false
set_option maxRecDepth 100000

theorem step_append_sl_hp {w W : World} {X : List Nat} {rs : List Rs} {ops : Array Oper} {o : Oper} {a : Act} {K : Act → World → Prop} {Q : Exit → Act → World → Prop} {E : Prop} (hgd : o.guard = none) (s x : Operand) {t e : TypeId} {z : Value} {size bytes : Nat}
    (ho : o.op = .call { callee := .builtin .append, args := #[s, x], argTypes := #[t, t] })
    (ht : Tryd.prog.underlying t = some (.slice e)) (hI : (Tryd.prog.info? e).map (fun i => (i.zero, i.size, i.bytes)) = some (some z, size, bytes)) (hzs : z.cells.size = size) (hsz : 0 < size) (hby : bytes ≤ 1000)
    (h : Hp w X rs W) (i : Nat) {v : Value} {n : Nat} {xs : List Value} (hi : rs[i]? = some (.row e size v n xs)) (hs : a.eval s = v) {xv : Value} {m : Nat} {ys : List Value} (hx : a.eval x = xv) (hsl : Sl W xv m ys)
    (hys : ys.length = m * size) (h1 : ∀ u ∈ ys, u.oneCell' = true) (hl : n + m ≤ 100000000)
    (hn : ∀ v' W', Hp w X (rs.set i (.row e size v' (n + m) (xs ++ ys))) W' → (∃ ad cap, v' = .slice ad (n + m) cap) → K (a.put o.dst v') W') :
    if Region.wanted o (yielded ops a.tmps) = true then Oper.wp Tryd.prog o a W K Q else E := by
  have hw : Region.wanted o (yielded ops a.tmps) = true := by simp [Region.wanted, hgd]
  rw [if_pos hw]
  obtain ⟨inf, hi2, hz, hsz2, hby2⟩ := info_parts hI
  have hm : (n + m) * bytes ≤ 100000000 * 1000 := Nat.mul_le_mul (by omega) hby
  obtain ⟨ad, c, rfl, hmx, hc⟩ := hsl
  by_cases h0 : m = 0
  · subst h0
    have hy0 : ys = [] := List.length_eq_zero_iff.1 (by simpa using hys)
    subst hy0
    have hrun := run_append_owned_zero (P := Tryd.prog) (w := W) 0 t o.type e inf size ht hi2 v n xs (h.row hi) ad c
    obtain ⟨ad2, c2, rfl⟩ := rowShape (h.row hi)
    refine Lib.wp_append_run W s x t t ho _ _ hs hx _ _ hrun (hn _ _ ?_ ⟨_, _, rfl⟩)
    rw [List.append_nil, Nat.add_zero]
    have : rs.set i (.row e size (.slice ad2 n c2) n xs) = rs := by
      apply List.ext_getElem?; intro j
      by_cases hj : i = j
      · subst hj
        rw [List.getElem?_set_self (List.getElem?_eq_some_iff.1 hi).1, hi]
      · rw [List.getElem?_set_ne hj]
    rw [this]; exact h
  · obtain ⟨b, o', rfl, hr⟩ := hc.resolve_left h0
    refine wp_append_lies W s x t ho 0 e inf z size bytes ht hi2 hz hsz2 hby2 hzs hsz v n xs hs (h.row hi) ⟨b, o', none⟩ m c ys hx (by omega) ?_ h1 (by omega) (by unfold maxLen; omega) (by omega) (Nat.zero_le _) W.heap.size rfl ?_
    · intro j u hj
      rw [addr_add]
      exact hr.2 j u hj
    · intro g' cap w' h2 h3 h4 h5
      exact hn _ _ (h.grown hi h2 h3 h4 h5) ⟨_, _, rfl⟩
/-- the same, with the new length and cells told -/
theorem step_append_sl_hpk {w W : World} {X : List Nat} {rs : List Rs} {ops : Array Oper} {o : Oper} {a : Act} {K : Act → World → Prop} {Q : Exit → Act → World → Prop} {E : Prop} (hgd : o.guard = none) (s x : Operand) {t e : TypeId} {z : Value} {size bytes : Nat}
    (ho : o.op = .call { callee := .builtin .append, args := #[s, x], argTypes := #[t, t] })
    (ht : Tryd.prog.underlying t = some (.slice e)) (hI : (Tryd.prog.info? e).map (fun i => (i.zero, i.size, i.bytes)) = some (some z, size, bytes)) (hzs : z.cells.size = size) (hsz : 0 < size) (hby : bytes ≤ 1000)
    (h : Hp w X rs W) (i : Nat) {v : Value} {n : Nat} {xs : List Value} (hi : rs[i]? = some (.row e size v n xs)) (hs : a.eval s = v) {xv : Value} {m : Nat} {ys : List Value} (hx : a.eval x = xv) (hsl : Sl W xv m ys)
    (hys : ys.length = m * size) (h1 : ∀ u ∈ ys, u.oneCell' = true) (hl : n + m ≤ 100000000) {k : Nat} (hk : n + m = k) {zs : List Value} (hz : xs ++ ys = zs)
    (hn : ∀ v' W', Hp w X (rs.set i (.row e size v' k zs)) W' → (∃ ad cap, v' = .slice ad k cap) → K (a.put o.dst v') W') :
    if Region.wanted o (yielded ops a.tmps) = true then Oper.wp Tryd.prog o a W K Q else E := by
  subst hk hz
  exact step_append_sl_hp hgd s x ho ht hI hzs hsz hby h i hi hs hx hsl hys h1 hl hn
end Go.Proofs.YtgbkpkioijbgoaaDoor
