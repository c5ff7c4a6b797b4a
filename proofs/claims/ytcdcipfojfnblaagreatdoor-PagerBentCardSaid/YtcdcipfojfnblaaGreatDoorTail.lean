/- A queue: a slice of one-cell values that lies somewhere in a block that the call holds: its first element, what is behind it, an append. No condition. -/
import Derived.Test.YtcdcipfojfnblaaGreatDoorHp
import Derived.Test.YtcdcipfojfnblaaGreatDoorApp
import Derived.Deep.AppendSrc
namespace Go.Proofs.YtcdcipfojfnblaaGreatDoor
open Go.RowKit
set_option linter.unusedVariables false
set_option maxRecDepth 100000

def TailAt (e : TypeId) (v : Value) (n : Nat) (xs : List Value) (W : World) (fp : List Nat) : Prop :=
  xs.length = n ∧ ((v = .slice none 0 0 ∧ n = 0 ∧ fp = []) ∨
    ∃ g off cap cur, v = .slice (some ⟨g, off, none⟩) n cap ∧ fp = [g] ∧ W.heap[g]? = some (.cells cur e (0, 0)) ∧ n ≤ cap ∧ cap ≤ maxLen ∧ off + cap ≤ cur.size ∧ (cur.toList.drop off).take n = xs)
theorem TailAt.stable {e : TypeId} {v : Value} {n : Nat} {xs : List Value} (W W' : World) (fp : List Nat) (h : TailAt e v n xs W fp) (hb : ∀ b, b ∈ fp → b < W.heap.size ∧ W'.heap[b]? = W.heap[b]?) : TailAt e v n xs W' fp := by
  obtain ⟨h1, h2⟩ := h
  refine ⟨h1, ?_⟩
  rcases h2 with h2 | ⟨g, off, cap, cur, hv, rfl, hg, h3⟩
  · exact .inl h2
  · exact .inr ⟨g, off, cap, cur, hv, rfl, ((hb g (by simp)).2).trans hg, h3⟩
/-- the queue v of n elements xs -/
def tl (e : TypeId) (v : Value) (n : Nat) (xs : List Value) : Rs := .gen (TailAt e v n xs) TailAt.stable
theorem TailAt.shape {e : TypeId} {v : Value} {n : Nat} {xs : List Value} {W : World} {fp : List Nat} (h : TailAt e v n xs W fp) : ∃ a cap, v = .slice a n cap ∧ (n ≤ cap ∨ (a = none ∧ n = 0 ∧ cap = 0)) := by
  rcases h.2 with ⟨rfl, rfl, _⟩ | ⟨g, off, cap, cur, rfl, _, _, h3, _⟩
  · exact ⟨none, 0, rfl, .inr ⟨rfl, rfl, rfl⟩⟩
  · exact ⟨_, cap, rfl, .inl h3⟩
namespace Hp
variable {w W W' : World} {X : List Nat} {rs : List Rs} {i : Nat} {e : TypeId} {n : Nat} {v : Value} {xs : List Value}
theorem tail (h : Hp w X rs W) (hi : rs[i]? = some (tl e v n xs)) : ∃ fp, TailAt e v n xs W fp := by
  obtain ⟨fps, h1, _⟩ := h
  obtain ⟨fp, _, hr⟩ := h1.get hi
  exact ⟨fp, hr⟩
/-- a row is one -/
theorem toTail (h : Hp w X rs W) (hi : rs[i]? = some (.row e 1 v n xs)) : Hp w X (rs.set i (tl e v n xs)) W :=
  h.upd hi _ fun fp hr => by
    obtain ⟨hr, rfl⟩ := hr
    refine ⟨v.ownBlock.toList, ?_, by cases v.ownBlock <;> simp, Keeps.refl _ _, ?_⟩
    · obtain ⟨h1, h2⟩ := hr
      refine ⟨by simpa using h1, ?_⟩
      rcases h2 with ⟨rfl, h0⟩ | ⟨g, cap, cur, rfl, _, hg, h3, h4, h5, h6⟩
      · exact .inl ⟨rfl, h0, rfl⟩
      · exact .inr ⟨g, 0, cap, cur, rfl, rfl, hg, h3, h4, by omega, by simpa using h6⟩
    · intro b hb
      refine ⟨?_, .inl hb⟩
      rcases hr.2 with ⟨rfl, h0⟩ | ⟨g, cap, cur, rfl, _, hg, _⟩
      · simp [Value.ownBlock] at hb
      · simp [Value.ownBlock] at hb; subst hb; exact block_lt hg
/-- what is ahead of a queue that is not empty: where it lies; what is behind it is a queue, too -/
theorem tailHead (h : Hp w X rs W) {x : Value} (hi : rs[i]? = some (tl e v (n + 1) (x :: xs))) : ∃ g off cap, v = .slice (some ⟨g, off, none⟩) (n + 1) (cap + 1) ∧ n ≤ cap ∧ cap ≤ maxLen ∧ W.cell? ⟨g, off, none⟩ = some x ∧
    (∀ o, (o = off + 1 ∨ (o = off ∧ cap = 0)) → Hp w X (rs.set i (tl e (.slice (some ⟨g, o, none⟩) n cap) n xs)) W) := by
  obtain ⟨fp, ht⟩ := h.tail hi
  obtain ⟨h1, h2⟩ := ht
  rcases h2 with ⟨_, h0, _⟩ | ⟨g, off, cap, cur, rfl, rfl, hg, h3, h4, h5, h6⟩
  · omega
  · obtain ⟨c, rfl⟩ : ∃ c, cap = c + 1 := ⟨cap - 1, by omega⟩
    have hx0 : cur[off]? = some x := by
      have := congrArg (fun l : List Value => l[0]?) h6
      simpa [List.getElem?_take, List.getElem?_drop] using this
    refine ⟨g, off, c, rfl, by omega, by omega, ?_, fun o ho => ?_⟩
    · rw [cell_of_row W g off cur e (0, 0) hg]; exact hx0
    · refine h.upd hi _ fun fp hr => ?_
      obtain ⟨_, hr⟩ := hr
      have hfp : fp = [g] := by
        rcases hr with ⟨hv, _⟩ | ⟨g', off', cap', cur', hv, hfp, _⟩
        · cases hv
        · injection hv with hv _ _; injection hv with hv; injection hv with hv _ _
          rw [hfp, hv]
      subst hfp
      refine ⟨[g], ⟨by simpa using h1, ?_⟩, by simp, Keeps.refl _ _, fun b hb => ⟨by simp at hb; subst hb; exact block_lt hg, .inl hb⟩⟩
      refine .inr ⟨g, o, c, cur, rfl, rfl, hg, by omega, by omega, by omega, ?_⟩
      rcases ho with rfl | ⟨rfl, rfl⟩
      · have := congrArg (List.drop 1) h6
        rw [List.drop_take, List.drop_drop] at this
        simpa using this
      · have hn : n = 0 := by omega
        subst hn
        have : xs = [] := List.length_eq_zero_iff.1 (by simpa using h1)
        subst this; simp
end Hp
theorem run_append_zero {P : Program} (w : World) (t ty e : TypeId) (i : TypeInfo) (ht : P.underlying t = some (.slice e)) (hi : P.info? e = some i) (a : Option Addr) (n cap : Nat) (hn : n ≤ cap) (ad : Option Addr) (c : Nat) :
    (Builtin.append_ #[t, t] ty #[.slice a n cap, .slice ad 0 c]).run P w = .ok (.slice a n cap) w := by
  cases a <;> cases ad <;> simp [Builtin.append_, run_underlying ht, sizeOf, typeInfo, hi, Builtin.lenOf, Builtin.firstCells, hn, storeCells, loadCells, loadCellsFrom, Result.andThen]
/-- 'append(v, x)' of one element that lies in block q, to a row that is held, however great -/
theorem wpList_append_hpw {w W : World} {X : List Nat} {rs : List Rs} {ops : Array Oper} {rest : List Oper} {o : Oper} {a : Act} {Q : Exit → Act → World → Prop} (hgd : o.guard = none) (s x : Operand) {t e : TypeId} {z : Value} {size bytes : Nat}
    (ho : o.op = .call { callee := .builtin .append, args := #[s, x], argTypes := #[t, t] })
    (ht : Tryz.prog.underlying t = some (.slice e)) (hI : (Tryz.prog.info? e).map (fun i => (i.zero, i.size, i.bytes)) = some (some z, size, bytes)) (hzs : z.cells.size = size) (hsz : 0 < size)
    (h : Hp w X rs W) (i : Nat) {v : Value} {n : Nat} {xs : List Value} (hi : rs[i]? = some (.row e size v n xs)) (hs : a.eval s = v) (g c : Nat) (ys : List Value) (hx : a.eval x = .slice (some ⟨g, 0, none⟩) 1 c)
    (hys : ys.length = size) (hc : ∀ j u, ys[j]? = some u → W.cell? ⟨g, j, none⟩ = some u) (h1 : ∀ u ∈ ys, u.oneCell' = true) (hl : n < 9223372036854775807) (hl2 : (n + 1) * bytes ≤ 140737488355328)
    (hn : ∀ v' W', Hp w X (rs.set i (.row e size v' (n + 1) (xs ++ ys))) W' → (∃ b cap, v' = .slice (some ⟨b, 0, none⟩) (n + 1) cap) → wpList Tryz.prog ops Q rest (a.put o.dst v') W') : wpList Tryz.prog ops Q (o :: rest) a W := by
  obtain ⟨inf, hi2, hz, hsz2, hby2⟩ := info_parts hI
  refine wpList_append_lies W hgd s x t ho 0 e inf z size bytes ht hi2 hz hsz2 hby2 hzs hsz v n xs hs (h.row hi) ⟨g, 0, none⟩ 1 c ys hx (by omega) ?_ h1 (by decide) (by unfold maxLen; omega) hl2 (Nat.zero_le _) W.heap.size rfl ?_
  · intro j u hj
    rw [addr_add, Nat.zero_add]
    exact hc j u hj
  · intro g' cap w' h2 h3 h4 h5
    exact hn _ _ (h.grown hi h2 h3 h4 h5) ⟨_, _, rfl⟩
/-- cells stored one behind the other -/
theorem heap_setCells {g : Nat} {e : TypeId} : ∀ (vs : List Value) (o : Nat) (W : World) (cur : Array Value), W.heap[g]? = some (.cells cur e (0, 0)) → ∃ cur' : Array Value, (W.setCells g o vs).heap[g]? = some (.cells cur' e (0, 0)) ∧ cur'.size = cur.size ∧ (∀ j, j < o → cur'[j]? = cur[j]?) ∧ (∀ j, o + vs.length ≤ j → cur'[j]? = cur[j]?) ∧ (∀ j, j < vs.length → o + j < cur.size → cur'[o + j]? = vs[j]?) ∧ Keeps [g] W (W.setCells g o vs)
  | [], o, W, cur, h => ⟨cur, h, rfl, fun _ _ => rfl, fun _ _ => rfl, fun j hj => by simp at hj, Keeps.refl _ _⟩
  | v :: vs, o, W, cur, h => by
    have h1 := heap_setCell_same W g o cur e v h
    obtain ⟨cur', g1, g2, g3, g4, g5, g6⟩ := heap_setCells vs (o + 1) _ _ h1
    refine ⟨cur', g1, by rw [g2]; simp, fun j hj => ?_, fun j hj => ?_, fun j hj hs => ?_, ((Keeps.refl _ W).setCell (p := ⟨g, o, none⟩) (Or.inl (by simp)) v).trans g6⟩
    · rw [g3 j (by omega), Array.getElem?_setIfInBounds_ne (by omega)]
    · rw [g4 j (by simp at hj; omega), Array.getElem?_setIfInBounds_ne (by simp at hj; omega)]
    · cases j with
      | zero =>
        rw [g3 _ (by omega)]
        simp only [Nat.add_zero] at hs ⊢
        simp [hs]
      | succ j =>
        have := g5 j (by simpa using hj) (by simp; omega)
        rw [show o + (j + 1) = o + 1 + j by omega, this]; simp
/-- 'append(v, x...)' to a queue -/
theorem wpList_append_tail {w W : World} {X : List Nat} {rs : List Rs} {ops : Array Oper} {rest : List Oper} {o : Oper} {a : Act} {Q : Exit → Act → World → Prop} (hgd : o.guard = none) (s x : Operand) {t e : TypeId} {z : Value} {bytes : Nat}
    (ho : o.op = .call { callee := .builtin .append, args := #[s, x], argTypes := #[t, t] })
    (ht : Tryz.prog.underlying t = some (.slice e)) (hI : (Tryz.prog.info? e).map (fun i => (i.zero, i.size, i.bytes)) = some (some z, 1, bytes)) (hzs : z.cells.size = 1) (hby : bytes ≤ 1000)
    (h : Hp w X rs W) (i : Nat) {v : Value} {n : Nat} {xs : List Value} (hi : rs[i]? = some (tl e v n xs)) (hs : a.eval s = v) {xv : Value} {m : Nat} {ys : List Value} (hx : a.eval x = xv) (hsl : Sl W xv m ys)
    (hys : ys.length = m) (h1 : ∀ u ∈ ys, u.oneCell' = true) (hl : n + m ≤ 100000000)
    (hn : ∀ v' W', Hp w X (rs.set i (tl e v' (n + m) (xs ++ ys))) W' → wpList Tryz.prog ops Q rest (a.put o.dst v') W') : wpList Tryz.prog ops Q (o :: rest) a W := by
  obtain ⟨inf, hi2, hz, hsz2, hby2⟩ := info_parts hI
  have hm : (n + m) * bytes ≤ 100000000 * 1000 := Nat.mul_le_mul (by omega) hby
  obtain ⟨ad, c, rfl, hmx, hc⟩ := hsl
  obtain ⟨fp0, ht0⟩ := h.tail hi
  have hxl := ht0.1
  by_cases h0 : m = 0
  · subst h0
    have hy0 : ys = [] := List.length_eq_zero_iff.1 hys
    subst hy0
    obtain ⟨ad2, c2, rfl, hc2⟩ := ht0.shape
    have hrun := run_append_zero (P := Tryz.prog) W t o.type e inf ht hi2 ad2 n c2 (by omega) ad c
    refine Lib.wpList_append_run W hgd s x t t ho _ _ hs hx _ _ hrun (hn _ _ ?_)
    rw [List.append_nil, Nat.add_zero]
    have : rs.set i (tl e (.slice ad2 n c2) n xs) = rs := by
      apply List.ext_getElem?; intro j
      by_cases hj : i = j
      · subst hj
        rw [List.getElem?_set_self (List.getElem?_eq_some_iff.1 hi).1, hi]
      · rw [List.getElem?_set_ne hj]
    rw [this]; exact h
  · obtain ⟨b, o', rfl, hr⟩ := hc.resolve_left h0
    have hsrc : Src Tryz.prog 1 t (.slice (some ⟨b, o', none⟩) m c) m ys W := Src.ofSlice W ht ⟨b, o', none⟩ m c ys (by omega) (fun j u hu => by rw [addr_add]; exact hr.2 j u hu) h1
    have grow : ∀ (base : Option Addr) (sCap : Nat), v = .slice base n sCap → sCap < n + m → (∀ W' : World, W'.heap = W.heap → (Builtin.firstCells 1 n (.slice base n sCap)).run Tryz.prog W' = .ok xs.toArray W') → wpList Tryz.prog ops Q (o :: rest) a W := by
      intro base sCap hv hlt hold
      subst hv
      have hrun := run_append_grow_src (P := Tryz.prog) W t t o.type e inf z ht hi2 hz base n sCap xs (by rw [hsz2]; exact hold _ rfl) (.slice (some ⟨b, o', none⟩) m c) m ys (by rw [hsz2]; exact hsrc) hlt (by omega) (by rw [hby2]; exact growslice_fits (by omega) (by omega))
      refine Lib.wpList_append_run W hgd s x t t ho _ _ hs hx _ _ hrun (hn _ _ ?_)
      have hge := grownCap_ge W (n + m) sCap e
      have hle := grownCap_le_maxLen W (n + m) sCap e (by unfold maxLen; omega)
      refine h.upd hi _ fun fp hfp => ⟨[W.heap.size], ⟨by simp; omega, .inr ⟨W.heap.size, 0, _, _, rfl, rfl, heap_alloc_new W.drew _, hge, hle, ?_, ?_⟩⟩, by simp, (((Keeps.refl fp W).drew).alloc _), ?_⟩
      · rw [Array.size_append, zeros_size, hzs]
        simp; omega
      · rw [Array.toList_append, List.drop_zero, List.take_append_of_le_length (by simp; omega)]
        exact List.take_of_length_le (by simp; omega)
      · intro b' hb'
        simp at hb'; subst hb'
        exact ⟨by simp, .inr (Nat.le_refl _)⟩
    rcases ht0.2 with ⟨rfl, rfl, _⟩ | ⟨g, off, cap, cur, rfl, rfl, hg, h3, h4, h5, h6⟩
    · have : xs = [] := List.length_eq_zero_iff.1 hxl
      subst this
      exact grow none 0 rfl (by omega) fun W' _ => run_firstCells_none W' 1 0 0 0
    · have hcell : ∀ j u, xs[j]? = some u → cur[off + j]? = some u := fun j u hu => by
        have hj : j < n := by have := (List.getElem?_eq_some_iff.1 hu).1; omega
        rw [← h6, List.getElem?_take_of_lt hj, List.getElem?_drop] at hu
        simpa using hu
      by_cases hroom : n + m ≤ cap
      · have hrun := run_append_room_src (P := Tryz.prog) W t t o.type e inf ht hi2 g off n cap (.slice (some ⟨b, o', none⟩) m c) m ys (by rw [hsz2]; exact hsrc) hroom (fun j hj => by
          rw [hsz2, cell_of_row W g _ cur e (0, 0) hg]
          have : off + n + j < cur.size := by omega
          simp [this]) (fun j hj => by simp [World.frozen?, hg])
        refine Lib.wpList_append_run W hgd s x t t ho _ _ hs hx _ _ hrun (hn _ _ ?_)
        rw [hsz2]
        obtain ⟨cur', g1, g2, g3, g4, g5, g6⟩ := heap_setCells ys (off + n * 1) W cur hg
        refine h.upd hi _ fun fp hfp => ?_
        have hfp2 : fp = [g] := by
          rcases hfp.2 with ⟨hv, _⟩ | ⟨g', off', cap', cur', hv, hfp, _⟩
          · cases hv
          · injection hv with hv _ _; injection hv with hv; injection hv with hv _ _
            rw [hfp, hv]
        subst hfp2
        refine ⟨[g], ⟨by simp; omega, .inr ⟨g, off, cap, cur', rfl, rfl, g1, hroom, h4, by omega, ?_⟩⟩, by simp, g6, fun b' hb' => ⟨by simp at hb'; subst hb'; exact block_lt g1, .inl hb'⟩⟩
        apply List.ext_getElem?; intro j
        by_cases hj : j < n
        · rw [List.getElem?_take_of_lt (by omega), List.getElem?_drop, List.getElem?_append_left (by omega)]
          obtain ⟨u, hu⟩ : ∃ u, xs[j]? = some u := ⟨_, List.getElem?_eq_getElem (by omega)⟩
          rw [hu]
          have := hcell j u hu
          rw [← g3 (off + j) (by omega)] at this
          simpa using this
        · rw [List.getElem?_append_right (by omega), hxl]
          by_cases hj2 : j < n + m
          · rw [List.getElem?_take_of_lt hj2, List.getElem?_drop]
            have := g5 (j - n) (by omega) (by omega)
            rw [show off + n * 1 + (j - n) = off + j by omega] at this
            simpa using this
          · rw [List.getElem?_eq_none (by simp; omega), List.getElem?_eq_none (by omega)]
      · exact grow (some ⟨g, off, none⟩) cap rfl (by omega) fun W' hW' => run_firstCells_some W' 1 n ⟨g, off, none⟩ n cap xs (by omega) (fun j u hu => by
          rw [addr_add, cell_of_row W' g _ cur e (0, 0) (by rw [hW']; exact hg)]
          exact hcell j u hu)
end Go.Proofs.YtcdcipfojfnblaaGreatDoor
