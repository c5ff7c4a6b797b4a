/- A store at a key that is there into a map that is ranged over: who is still to come stays so. No condition. -/
import Derived.Test.YtmeaidkbkelclabBase
import Derived.Maps.RangeWalk
namespace Go.Proofs.Ytmeaidkbkelclab
open Go.RowKit Go.MapKept Go.ChangeMaps Go.WideShapes
open Go.WideElems (Fit rd rg pl rd_key rd_val rg_of other_key rd_mk)
open Go.Maps (Keyed)
set_option linter.unusedVariables false

theorem set_kept {α : Type} {l : List α} {j : Nat} {x y : α} (hj : l[j]? = some x) {z : α} (hz : z ∈ l) : z ∈ l.set j y ∨ z = x := by
  obtain ⟨i, hi⟩ := List.getElem?_of_mem hz
  by_cases e : j = i
  · subst e; rw [hj] at hi; injection hi with hi; exact .inr hi.symm
  · left
    exact List.mem_iff_getElem?.2 ⟨i, by rw [List.getElem?_set_ne e]; exact hi⟩
theorem set_from {α : Type} {l : List α} {j : Nat} {y z : α} (hz : z ∈ l.set j y) : z ∈ l ∨ z = y := by
  obtain ⟨i, hi⟩ := List.getElem?_of_mem hz
  by_cases e : j = i
  · subst e
    rw [List.getElem?_set] at hi
    simp at hi
    exact .inr hi.2.symm
  · rw [List.getElem?_set_ne e] at hi
    exact .inl (List.mem_of_getElem? hi)
theorem ranges_store {H : Type} {P : Program} {k t e : TypeId} {R : Value → Option (DataW H × List MemPlace)} {w : World} {b r n : Nat} {D : DataW H} {left : Lit → Bool} {cnt : Nat} (h : w.ranges P k R b r n D left cnt) (K : Keyed P k) (ht : P.underlying t = some (.map k e)) (hn : n < maxLen)
    {key val : Value} {kl : Lit} {d : DataW H} {ps : List MemPlace} (hkey : keyOf P k key = some kl) (hv : R val = some (d, ps)) (hin : Maps.has D kl = true) :
    ∃ w', (Instr.mapUpdate t (.map (some b)) key val).run P w = .ok () w' ∧ w'.ranges P k R b r n (D.put kl d) left cnt ∧ w.mapTurned w' b := by
  have hne := h.ne
  have ho := h.owns
  obtain ⟨es, clock, since, seen, c0, hb, F, hs, rfl, hr, hold, rfl, hl1, hl2, hsc, hsk⟩ := h
  rcases K.find w hkey es.toList F.keys with ⟨h1, h2⟩ | ⟨j, e0, h1, h2, h3⟩
  · exfalso
    obtain ⟨p, hp, hpk⟩ := List.any_eq_true.1 hin
    obtain ⟨x, hx, rfl⟩ := List.mem_map.1 (mem_sorted.1 hp)
    obtain ⟨y, hy⟩ := F.reads x hx
    have e1 := WideAt.sameKey_eq hpk
    rw [rg_of hy] at e1
    exact h2 x hx (K.inj (e1 ▸ rd_key hy) hkey)
  · have hj : es[j]? = some e0 := by simpa using h2
    obtain ⟨es', clock', hrun, F', hput, _⟩ := Maps.fit_store (R' := R) K ht hb F (Nat.lt_of_le_of_lt hs hn) (fun _ _ _ _ hz => hz) hkey hv
    have hrun2 : (Instr.mapUpdate t (.map (some b)) key val).run P w = .ok () (setBlock w b (.map (es.modify j (fun e' => { e' with key := key, val := val })) clock)) := by
      simp [Instr.mapUpdate, run_underlying ht, MapKept.run_getObj_map hb, K.check w false hkey, h1, hj, h3, K.stays w hkey, MapKept.run_setObj_map _ hb, Result.andThen, setBlock]
    have heq : Obj.map es' clock' = .map (es.modify j (fun e' => { e' with key := key, val := val })) clock := by
      have e1 := hrun.symm.trans hrun2
      injection e1 with _ e1
      have e2 := congrArg (fun W : World => W.heap[b]?) e1
      simp only [heap_setBlock_same hb] at e2
      injection e2
    injection heq with q1 q2
    subst q1; subst q2
    have hlist : (es.modify j (fun e' => { e' with key := key, val := val })).toList = es.toList.set j { e0 with key := key, val := val } := by
      apply List.ext_getElem?; intro i
      rw [Array.getElem?_toList, Array.getElem?_modify, List.getElem?_set]
      by_cases e : j = i
      · subst e
        have hl := (List.getElem?_eq_some_iff.1 h2).1
        simp only [if_true, hl, hj, Option.map_some]
      · simp [e]
    have hborn : ∀ x, x ∈ es.toList.set j { e0 with key := key, val := val } → ∃ y, y ∈ es.toList ∧ y.born = x.born ∧ (rg P k R y).1 = (rg P k R x).1 := by
      intro x hx
      rcases set_from hx with h | rfl
      · exact ⟨x, h, rfl, rfl⟩
      · refine ⟨e0, List.mem_of_getElem? h2, rfl, ?_⟩
        obtain ⟨y, hy⟩ := F.reads e0 (List.mem_of_getElem? h2)
        have m1 := rd_key hy
        rw [h3, hkey] at m1
        rw [rg_of hy, rg_of (rd_mk hkey hv), Option.some.inj m1]
    refine ⟨_, hrun2, ⟨_, _, since, seen, c0, heap_setBlock_same hb _, F', by simpa using hs, by rw [DataW.put_eq, hput], (heap_setBlock_other hb _ hne).trans hr, ?_, ?_, ?_, ?_, hsc, hsk⟩, ⟨es, _, _, _, hb, rfl⟩⟩
    · intro x hx
      rw [hlist] at hx
      obtain ⟨y, hy, hyb, _⟩ := hborn x hx
      rw [← hyb]; exact hold y hy
    · have e1 : ∀ a : Array MapEntry, (leftOf a seen).size = ((a.toList.map (·.born)).filter fun e => !seen.contains e).length := fun a => by
        unfold leftOf
        rw [← Array.length_toList, Array.toList_filter, List.filter_map, List.length_map]; rfl
      rw [e1, e1, hlist, List.map_set]
      congr 2
      apply List.ext_getElem?; intro i
      rw [List.getElem?_set]
      by_cases e : j = i
      · subst e
        have hl := (List.getElem?_eq_some_iff.1 h2).1
        simp only [if_true, List.length_map, hl, List.getElem?_map, h2, Option.map_some]
      · simp [e]
    · intro x hx
      rw [hlist] at hx
      obtain ⟨y, hy, hyb, hyk⟩ := hborn x hx
      rw [← hyb, ← hyk]; exact hl1 y hy
    · intro kl' hkl
      obtain ⟨x, hx, hxk⟩ := hl2 kl' hkl
      rw [hlist]
      rcases set_kept (y := { e0 with key := key, val := val }) h2 hx with h | rfl
      · exact ⟨x, h, hxk⟩
      · refine ⟨{ x with key := key, val := val }, ?_, ?_⟩
        · have hl := (List.getElem?_eq_some_iff.1 h2).1
          exact List.mem_iff_getElem?.2 ⟨j, by rw [List.getElem?_set]; simp only [if_true, hl]⟩
        · obtain ⟨y, hy⟩ := F.reads x hx
          have m1 := rd_key hy
          rw [h3, hkey] at m1
          rw [rg_of (rd_mk hkey hv), ← hxk, rg_of hy, Option.some.inj m1]
/-- 'm[k] = v' in the round, at a key that is there -/
theorem wpList_update_ranges {H : Type} {P : Program} {w : World} {ops : Array Oper} {rest : List Oper} {o : Oper} {a : Act} {Q : Exit → Act → World → Prop} (hg : o.guard = none) (m x v : Operand) (t : TypeId) (hop : o.op = Op.mapUpdate t m x v)
    (k e : TypeId) (K : Keyed P k) (ht : P.underlying t = some (.map k e)) (R : Value → Option (DataW H × List MemPlace)) (b r n : Nat) (D : DataW H) (left : Lit → Bool) (cnt : Nat) (hm : a.eval m = .map (some b)) (h : w.ranges P k R b r n D left cnt) (hn : n < maxLen)
    (key val : Value) (kl : Lit) (hx : a.eval x = key) (hvv : a.eval v = val) (hkey : keyOf P k key = some kl) (d : DataW H) (ps : List MemPlace) (hv : R val = some (d, ps)) (hin : Maps.has D kl = true)
    (hK : ∀ w', w'.ranges P k R b r n (D.put kl d) left cnt → w.mapTurned w' b → wpList P ops Q rest (a.put o.dst undef) w') : wpList P ops Q (o :: rest) a w := by
  refine wpList_plain hg fun K' hK' => ?_
  obtain ⟨w', hrun, r1, r2⟩ := ranges_store h K ht hn hkey hv hin
  unfold Oper.wp
  simp [execOp, hop, hm, hx, hvv, hrun, Result.andThen]
  exact hK' _ _ (hK w' r1 r2)
end Go.Proofs.Ytmeaidkbkelclab
