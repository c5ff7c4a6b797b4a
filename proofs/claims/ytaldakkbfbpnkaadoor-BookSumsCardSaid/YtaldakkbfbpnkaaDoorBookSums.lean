/- A book tells the sums of texts, and notes each once; twins that it tells are unlike, and of one sum: the law. The table of salts is a premise. No other condition. -/
import Derived.Test.YtaldakkbfbpnkaaDoorBookReal
import Derived.Test.YtaldakkbfbpnkaaDoorArgs
import Derived.BigRegion
namespace Go.Proofs.YtaldakkbfbpnkaaDoor.sha
open Go.RowKit
attribute [local go_sem ↓] Go.wp_at_zero Go.wp_at_succ
attribute [local go_sem] str_size
set_option linter.unusedVariables false
set_option maxRecDepth 100000

/-- the slice v is a row of the call's own that holds these texts -/
def SRow (w : World) (base : Nat) (v : Value) (ls : List (List UInt8)) : Prop := w.ownsRow base 9 1 v ls.length (ls.map fun l => .string (str l))
theorem SRow.turn {w w' : World} {base : Nat} {v : Value} {ls : List (List UInt8)} (h : SRow w base v ls) (k : ∀ q, v.ownBlock = some q → w'.heap[q]? = w.heap[q]?) : SRow w' base v ls := by
  refine ⟨h.1, ?_⟩
  rcases h.2 with h0 | ⟨g, cap, cur, rfl, hb, hg, r⟩
  · exact Or.inl h0
  · exact Or.inr ⟨g, cap, cur, rfl, hb, (k g rfl).trans hg, r⟩
theorem SRow.block {w : World} {base : Nat} {v : Value} {ls : List (List UInt8)} (h : SRow w base v ls) {q : Nat} (hq : v.ownBlock = some q) : base ≤ q ∧ ∃ cur, w.heap[q]? = some (.cells cur 9 (0, 0)) := by
  rcases h.2 with ⟨rfl, _⟩ | ⟨g, cap, cur, rfl, hb, hg, r⟩
  · cases hq
  · cases hq; exact ⟨hb, cur, hg⟩
theorem SRow.ne {w : World} {base g m : Nat} {v : Value} {ls : List (List UInt8)} {st : BSt} (h : SRow w base v ls) (hB : BookAt w g m st) {q : Nat} (hq : v.ownBlock = some q) : q ≠ g ∧ q ≠ m ∧ q < w.heap.size := by
  obtain ⟨_, cur, hc⟩ := h.block hq
  obtain ⟨D, ⟨es, clock, hm, _⟩, _⟩ := hB.own
  refine ⟨fun e => ?_, fun e => ?_, block_lt hc⟩
  · subst e; have := hc.symm.trans hB.blk; injection this with this; injection this with _ this; exact absurd this (by decide)
  · subst e; have := hc.symm.trans hm; cases this
theorem SRow.lt {w : World} {base : Nat} {v : Value} {ls : List (List UInt8)} (h : SRow w base v ls) {q : Nat} (hq : v.ownBlock = some q) : q < w.heap.size := by
  obtain ⟨_, cur, hc⟩ := h.block hq; exact block_lt hc
theorem SRow.below {w w' : World} {base : Nat} {v : Value} {ls : List (List UInt8)} (h : SRow w base v ls) (k : Below w.heap.size w w') : SRow w' base v ls := h.turn (fun q hq => k.block _ (h.lt hq))
theorem SRow.cell {w : World} {base : Nat} {v : Value} {ls : List (List UInt8)} (h : SRow w base v ls) {j : Nat} {l : List UInt8} (hj : ls[j]? = some l) : ∃ q cap, v = .slice (some ⟨q, 0, none⟩) ls.length cap ∧ w.cell? ⟨q, j, none⟩ = some (.string (str l)) := by
  have hlt := (List.getElem?_eq_some_iff.1 hj).1
  rcases h.2 with ⟨rfl, h0⟩ | ⟨g, cap, cur, rfl, hb, hg, _, _, hsz, ht⟩
  · omega
  · refine ⟨g, cap, rfl, ?_⟩
    rw [cell_of_row _ _ _ _ _ _ hg]
    have h1 : (cur.toList.take (ls.length * 1))[j]? = some (.string (str l)) := by rw [ht, List.getElem?_map, hj]; rfl
    rw [List.getElem?_take] at h1
    rw [if_pos (by omega)] at h1
    simpa using h1
theorem SRow.shape {w : World} {base : Nat} {v : Value} {ls : List (List UInt8)} (h : SRow w base v ls) : ∃ a cap, v = .slice a ls.length cap := by
  rcases h.2 with ⟨rfl, h0⟩ | ⟨g, cap, cur, rfl, _⟩
  · exact ⟨none, 0, by rw [h0]⟩
  · exact ⟨_, cap, rfl⟩
theorem strInfo2 : (Tryd.prog.info? 9).map (fun i => (i.zero, i.size, i.bytes)) = some (some (.string ⟨#[]⟩), 1, 16) := by kernel_rfl
/-- 'append(l, s)' of a text -/
theorem wpList_append_str {w : World} {ops : Array Oper} {rest : List Oper} {o : Oper} {a : Act} {Q : Exit → Act → World → Prop} (hgd : o.guard = none) (s x : Operand)
    (ho : o.op = .call { callee := .builtin .append, args := #[s, x], argTypes := #[50, 50] })
    (base : Nat) (v : Value) (ls : List (List UInt8)) (hs : a.eval s = v) (hown : SRow w base v ls) (g c : Nat) (l : List UInt8) (hx : a.eval x = .slice (some ⟨g, 0, none⟩) 1 c) (hc : w.cell? ⟨g, 0, none⟩ = some (.string (str l)))
    (hl : ls.length < 1000000) (hbase : base ≤ w.heap.size)
    (h : ∀ v' w', SRow w' base v' (ls ++ [l]) → w.grownBy w' v.ownBlock → wpList Tryd.prog ops Q rest (a.put o.dst v') w') : wpList Tryd.prog ops Q (o :: rest) a w := by
  obtain ⟨i, hi, hz, hsz, hby⟩ := info_parts strInfo2
  refine wpList_append_own w hgd s x 50 ho base 9 i (.string ⟨#[]⟩) 1 16 Tryd.underlying50 hi hz hsz hby rfl (by decide) v ls.length _ hs hown ⟨g, 0, none⟩ 1 c [.string (str l)] hx rfl ?_ ?_ ?_ ?_ hbase ?_
  · intro j u hj
    match j, hj with
    | 0, hj => simp at hj; subst hj; simpa [Addr.add] using hc
  · intro u hu; simp at hu; subst hu; rfl
  · unfold maxLen; omega
  · omega
  · intro v' w' h1 h2 _
    refine h v' w' ?_ h2
    unfold SRow
    rw [List.map_append, List.length_append]
    simpa using h1
theorem BookAt.grown {w w' : World} {g m : Nat} {st : BSt} (h : BookAt w g m st) {row : Option Nat} (k : w.grownBy w' row) (h1 : some g ≠ row) (h2 : some m ≠ row) : BookAt w' g m st := by
  obtain ⟨D, a, b, c, d⟩ := h.own
  exact ⟨(k.block _ (block_lt h.blk) h1).trans h.blk, h.ne, D, ownsMap_of_block a (k.block _ (ownsMap_lt a) h2), b, c, d⟩
/-- what is kept: of each text that was seen its sum is noted, unless there are twins -/
structure Kept (st : BSt) (seen : List (List UInt8)) : Prop where
  len : st.c ≤ seen.length
  sum : ∀ k t, st.f k = some t → k = shaB salts t ∧ t ∈ seen
  twin : st.tw = true → st.x ≠ st.y ∧ shaB salts st.x = shaB salts st.y ∧ st.x.length ≤ 100 ∧ st.y.length ≤ 100
  all : st.tw = false → st.c = seen.length ∧ st.fu = false ∧ st.x = [] ∧ st.y = [] ∧ ∀ t, t ∈ seen → st.f (shaB salts t) = some t
theorem Kept.none : Kept .none [] := ⟨Nat.le_refl _, (fun _ _ h => by cases h), (fun h => by cases h), (fun _ => ⟨rfl, rfl, rfl, rfl, (fun _ h => by cases h)⟩)⟩
theorem Kept.old {st : BSt} {seen : List (List UInt8)} (h : Kept st seen) {s : List UInt8} (hs : s ∈ seen) : Kept (noteS st (shaB salts s) s) seen := by
  cases htw : st.tw
  · have := (h.all htw).2.2.2.2 s hs
    have e : noteS st (shaB salts s) s = st := by unfold noteS; rw [if_neg (by rw [htw]; decide), this]; simp
    rw [e]; exact h
  · have e : noteS st (shaB salts s) s = st := by unfold noteS; rw [if_pos htw]
    rw [e]; exact h
theorem Kept.new {st : BSt} {seen : List (List UInt8)} (h : Kept st seen) {s : List UInt8} (hs : s ∉ seen) (hl : s.length ≤ 100) (hal : ∀ t, t ∈ seen → t.length ≤ 100) (hn : seen.length ≤ 1000) : Kept (noteS st (shaB salts s) s) (seen ++ [s]) := by
  have more : ∀ k t, st.f k = some t → k = shaB salts t ∧ t ∈ seen ++ [s] := fun k t hk => ⟨(h.sum k t hk).1, List.mem_append_left _ (h.sum k t hk).2⟩
  cases htw : st.tw
  · obtain ⟨a1, a2, a3, a4, a5⟩ := h.all htw
    have hne : ¬ st.tw = true := by rw [htw]; decide
    cases hf : st.f (shaB salts s) with
    | some t =>
      obtain ⟨e1, e2⟩ := h.sum _ _ hf
      have hts : t ≠ s := fun e => hs (e ▸ e2)
      have e : noteS st (shaB salts s) s = st.twin t s := by unfold noteS; rw [if_neg hne, hf]; simp [hts]
      rw [e]
      refine ⟨by rw [List.length_append]; exact Nat.le_trans h.len (Nat.le_add_right _ _), more, fun _ => ⟨hts, e1.symm, hal t e2, hl⟩, fun hh => by cases hh⟩
    | none =>
      have e : noteS st (shaB salts s) s = st.more (shaB salts s) s := by unfold noteS; rw [if_neg hne, hf]; simp; intro h8; omega
      rw [e]
      refine ⟨?_, ?_, fun hh => ?_, fun _ => ⟨?_, a2, a3, a4, ?_⟩⟩
      · rw [List.length_append]; exact Nat.succ_le_succ h.len
      · intro k t hk
        by_cases ek : k = shaB salts s
        · simp [BSt.more, ek] at hk; subst hk; exact ⟨ek, by simp⟩
        · simp [BSt.more, ek] at hk; exact more k t hk
      · exact absurd hh (by show ¬ st.tw = true; exact hne)
      · rw [List.length_append]; show st.c + 1 = _; rw [a1]; rfl
      · intro t ht
        rcases List.mem_append.1 ht with ht | ht
        · have h1 := a5 t ht
          have hk : shaB salts t ≠ shaB salts s := fun ee => by rw [ee, hf] at h1; cases h1
          simp [BSt.more, hk, h1]
        · simp at ht; subst ht; simp [BSt.more]
  · have e : noteS st (shaB salts s) s = st := by unfold noteS; rw [if_pos htw]
    rw [e]
    exact ⟨by rw [List.length_append]; exact Nat.le_trans h.len (Nat.le_add_right _ _), more, h.twin, fun hh => by rw [htw] at hh; cases hh⟩
end Go.Proofs.YtaldakkbfbpnkaaDoor.sha
