/- A queue of elements of any size: a slice that lies somewhere in a block that the call holds: its first element, what is behind it, an append. No condition. -/
import Derived.Test.YtcdcipfojfnblaaGreatDoorTail
namespace Go.Proofs.YtcdcipfojfnblaaGreatDoor
open Go.RowKit
set_option linter.unusedVariables false
set_option maxRecDepth 100000

def TailAtZ (e : TypeId) (size : Nat) (v : Value) (n : Nat) (xs : List Value) (W : World) (fp : List Nat) : Prop :=
  xs.length = n * size ∧ ((v = .slice none 0 0 ∧ n = 0 ∧ fp = []) ∨
    ∃ g off cap cur, v = .slice (some ⟨g, off, none⟩) n cap ∧ fp = [g] ∧ W.heap[g]? = some (.cells cur e (0, 0)) ∧ n ≤ cap ∧ cap ≤ maxLen ∧ off + cap * size ≤ cur.size ∧ (cur.toList.drop off).take (n * size) = xs)
theorem TailAtZ.stable {e : TypeId} {size : Nat} {v : Value} {n : Nat} {xs : List Value} (W W' : World) (fp : List Nat) (h : TailAtZ e size v n xs W fp) (hb : ∀ b, b ∈ fp → b < W.heap.size ∧ W'.heap[b]? = W.heap[b]?) : TailAtZ e size v n xs W' fp := by
  obtain ⟨h1, h2⟩ := h
  refine ⟨h1, ?_⟩
  rcases h2 with h2 | ⟨g, off, cap, cur, hv, rfl, hg, h3⟩
  · exact .inl h2
  · exact .inr ⟨g, off, cap, cur, hv, rfl, ((hb g (by simp)).2).trans hg, h3⟩
/-- the queue v of n elements of that size, their cells xs -/
def tlz (e : TypeId) (size : Nat) (v : Value) (n : Nat) (xs : List Value) : Rs := .gen (TailAtZ e size v n xs) TailAtZ.stable
theorem TailAtZ.shape {e : TypeId} {size : Nat} {v : Value} {n : Nat} {xs : List Value} {W : World} {fp : List Nat} (h : TailAtZ e size v n xs W fp) : ∃ a cap, v = .slice a n cap ∧ (n ≤ cap ∨ (a = none ∧ n = 0 ∧ cap = 0)) := by
  rcases h.2 with ⟨rfl, rfl, _⟩ | ⟨g, off, cap, cur, rfl, _, _, h3, _⟩
  · exact ⟨none, 0, rfl, .inr ⟨rfl, rfl, rfl⟩⟩
  · exact ⟨_, cap, rfl, .inl h3⟩
theorem TailAtZ.lt {e : TypeId} {size : Nat} {v : Value} {n : Nat} {xs : List Value} {W : World} {fp : List Nat} (h : TailAtZ e size v n xs W fp) : fp.Nodup ∧ ∀ b ∈ fp, b < W.heap.size := by
  rcases h.2 with ⟨rfl, rfl, rfl⟩ | ⟨g, off, cap, cur, rfl, rfl, hg, _⟩
  · simp
  · simp; exact block_lt hg
namespace Hp
variable {w W W' : World} {X : List Nat} {rs : List Rs} {i : Nat} {e : TypeId} {size n : Nat} {v : Value} {xs : List Value}
theorem tailz (h : Hp w X rs W) (hi : rs[i]? = some (tlz e size v n xs)) : ∃ fp, TailAtZ e size v n xs W fp := by
  obtain ⟨fps, h1, _⟩ := h
  obtain ⟨fp, _, hr⟩ := h1.get hi
  exact ⟨fp, hr⟩
/-- an empty queue -/
theorem tailzNil (h : Hp w X rs W) (e : TypeId) (size : Nat) : Hp w X (tlz e size (.slice none 0 0) 0 [] :: rs) W :=
  h.new _ (fp' := []) ⟨by simp, .inl ⟨rfl, rfl, rfl⟩⟩ (by simp) (Below.refl _ _) (by simp)
/-- what is ahead of a queue that is not empty: where it lies; what is behind it is a queue, too -/
theorem tailzHead (h : Hp w X rs W) (ys : List Value) (hys : ys.length = size) (hi : rs[i]? = some (tlz e size v (n + 1) (ys ++ xs))) : ∃ g off cap, v = .slice (some ⟨g, off, none⟩) (n + 1) (cap + 1) ∧ n ≤ cap ∧ cap ≤ maxLen ∧ (∀ j u, ys[j]? = some u → W.cell? ⟨g, off + j, none⟩ = some u) ∧
    (∀ o, (o = off + size ∨ (o = off ∧ cap = 0)) → Hp w X (rs.set i (tlz e size (.slice (some ⟨g, o, none⟩) n cap) n xs)) W) := by
  obtain ⟨fp, ht⟩ := h.tailz hi
  obtain ⟨h1, h2⟩ := ht
  rcases h2 with ⟨_, h0, _⟩ | ⟨g, off, cap, cur, rfl, rfl, hg, h3, h4, h5, h6⟩
  · omega
  · obtain ⟨c, rfl⟩ : ∃ c, cap = c + 1 := ⟨cap - 1, by omega⟩
    have en : (n + 1) * size = n * size + size := by rw [Nat.add_mul]; omega
    have ec : (c + 1) * size = c * size + size := by rw [Nat.add_mul]; omega
    have hxl : xs.length = n * size := by rw [List.length_append, hys] at h1; omega
    refine ⟨g, off, c, rfl, by omega, by omega, ?_, fun o ho => ?_⟩
    · intro j u hu
      have hj : j < ys.length := (List.getElem?_eq_some_iff.1 hu).1
      have this : ((cur.toList.drop off).take ((n + 1) * size))[j]? = (ys ++ xs)[j]? := by rw [h6]
      rw [List.getElem?_take_of_lt (by omega), List.getElem?_drop, List.getElem?_append_left hj, hu] at this
      rw [cell_of_row W g _ cur e (0, 0) hg]
      simpa using this
    · refine h.upd hi _ fun fp hr => ?_
      obtain ⟨_, hr⟩ := hr
      have hfp : fp = [g] := by
        rcases hr with ⟨hv, _⟩ | ⟨g', off', cap', cur', hv, hfp, _⟩
        · cases hv
        · injection hv with hv _ _; injection hv with hv; injection hv with hv _ _
          rw [hfp, hv]
      subst hfp
      refine ⟨[g], ⟨hxl, ?_⟩, by simp, Keeps.refl _ _, fun b hb => ⟨by simp at hb; subst hb; exact block_lt hg, .inl hb⟩⟩
      refine .inr ⟨g, o, c, cur, rfl, rfl, hg, by omega, by omega, ?_, ?_⟩
      · rcases ho with rfl | ⟨rfl, rfl⟩ <;> omega
      · rcases ho with rfl | ⟨rfl, rfl⟩
        · have := congrArg (List.drop size) h6
          rw [List.drop_take, List.drop_drop, List.drop_append_of_le_length (by omega), List.drop_of_length_le (by omega : ys.length ≤ size), List.nil_append, en, Nat.add_sub_cancel] at this
          exact this
        · have hn : n = 0 := by omega
          subst hn
          have : xs = [] := List.length_eq_zero_iff.1 (by simpa using hxl)
          subst this; simp
/-- 'append(v, x...)' to a queue -/
theorem tailzAppend (h : Hp w X rs W) (hi : rs[i]? = some (tlz e size v n xs)) {t ty : TypeId} {z : Value} {bytes : Nat}
    (ht : Tryz.prog.underlying t = some (.slice e)) (hI : (Tryz.prog.info? e).map (fun i => (i.zero, i.size, i.bytes)) = some (some z, size, bytes)) (hzs : z.cells.size = size) (hsz : 0 < size) (hby : bytes ≤ 1000) {xv : Value} {m : Nat} {ys : List Value} (hsl : Sl W xv m ys)
    (hys : ys.length = m * size) (h1 : ∀ u ∈ ys, u.oneCell' = true) (h0 : m ≠ 0) (hl : n + m ≤ 100000000) :
    ∃ v' W', (Builtin.append_ #[t, t] ty #[v, xv]).run Tryz.prog W = .ok v' W' ∧ Hp w X (rs.set i (tlz e size v' (n + m) (xs ++ ys))) W' ∧ ∃ ad cap, v' = .slice ad (n + m) cap := by
  obtain ⟨inf, hi2, hz, hsz2, hby2⟩ := info_parts hI
  have hm : (n + m) * bytes ≤ 100000000 * 1000 := Nat.mul_le_mul (by omega) hby
  have enm : (n + m) * size = n * size + m * size := Nat.add_mul _ _ _
  have hm1 : m * size ≥ m := Nat.le_mul_of_pos_right m hsz
  obtain ⟨ad, c, rfl, hmx, hc⟩ := hsl
  obtain ⟨fp0, ht0⟩ := h.tailz hi
  have hxl := ht0.1
  obtain ⟨b, o', rfl, hr⟩ := hc.resolve_left h0
  have hsrc : Src Tryz.prog size t (.slice (some ⟨b, o', none⟩) m c) m ys W := Src.ofSlice W ht ⟨b, o', none⟩ m c ys hys (fun j u hu => by rw [addr_add]; exact hr.2 j u hu) h1
  have grow : ∀ (base : Option Addr) (sCap : Nat), v = .slice base n sCap → sCap < n + m → (∀ W' : World, W'.heap = W.heap → (Builtin.firstCells size n (.slice base n sCap)).run Tryz.prog W' = .ok xs.toArray W') → ∃ v' W', (Builtin.append_ #[t, t] ty #[v, .slice (some ⟨b, o', none⟩) m c]).run Tryz.prog W = .ok v' W' ∧ Hp w X (rs.set i (tlz e size v' (n + m) (xs ++ ys))) W' ∧ ∃ ad cap, v' = .slice ad (n + m) cap := by
    intro base sCap hv hlt hold
    subst hv
    have hrun := run_append_grow_src (P := Tryz.prog) W t t ty e inf z ht hi2 hz base n sCap xs (by rw [hsz2]; exact hold _ rfl) (.slice (some ⟨b, o', none⟩) m c) m ys (by rw [hsz2]; exact hsrc) hlt (by omega) (by rw [hby2]; exact growslice_fits (by omega) (by omega))
    refine ⟨_, _, hrun, ?_, _, _, rfl⟩
    have hge := grownCap_ge W (n + m) sCap e
    have hle := grownCap_le_maxLen W (n + m) sCap e (by unfold maxLen; omega)
    refine h.upd hi _ fun fp hfp => ⟨[W.heap.size], ⟨by rw [List.length_append]; omega, .inr ⟨W.heap.size, 0, _, _, rfl, rfl, heap_alloc_new W.drew _, hge, hle, ?_, ?_⟩⟩, by simp, (((Keeps.refl fp W).drew).alloc _), ?_⟩
    · rw [Array.size_append, zeros_size, hzs, Nat.sub_mul]
      have := Nat.mul_le_mul_right size hge
      simp; omega
    · rw [Array.toList_append, List.drop_zero, List.take_append_of_le_length (by simp; omega)]
      exact List.take_of_length_le (by simp; omega)
    · intro b' hb'
      simp at hb'; subst hb'
      exact ⟨by simp, .inr (Nat.le_refl _)⟩
  rcases ht0.2 with ⟨rfl, rfl, _⟩ | ⟨g, off, cap, cur, rfl, rfl, hg, h3, h4, h5, h6⟩
  · have : xs = [] := List.length_eq_zero_iff.1 (by simpa using hxl)
    subst this
    exact grow none 0 rfl (by omega) fun W' _ => run_firstCells_none W' size 0 0 0
  · have hcell : ∀ j u, xs[j]? = some u → cur[off + j]? = some u := fun j u hu => by
      have hj : j < n * size := by have := (List.getElem?_eq_some_iff.1 hu).1; omega
      rw [← h6, List.getElem?_take_of_lt hj, List.getElem?_drop] at hu
      simpa using hu
    by_cases hroom : n + m ≤ cap
    · have hrc := Nat.mul_le_mul_right size hroom
      have hrun := run_append_room_src (P := Tryz.prog) W t t ty e inf ht hi2 g off n cap (.slice (some ⟨b, o', none⟩) m c) m ys (by rw [hsz2]; exact hsrc) hroom (fun j hj => by
        rw [hsz2, cell_of_row W g _ cur e (0, 0) hg]
        have : off + n * size + j < cur.size := by omega
        simp [this]) (fun j hj => by simp [World.frozen?, hg])
      refine ⟨_, _, hrun, ?_, _, _, rfl⟩
      rw [hsz2]
      obtain ⟨cur', g1, g2, g3, g4, g5, g6⟩ := heap_setCells ys (off + n * size) W cur hg
      refine h.upd hi _ fun fp hfp => ?_
      have hfp2 : fp = [g] := by
        rcases hfp.2 with ⟨hv, _⟩ | ⟨g', off', cap', cur', hv, hfp, _⟩
        · cases hv
        · injection hv with hv _ _; injection hv with hv; injection hv with hv _ _
          rw [hfp, hv]
      subst hfp2
      refine ⟨[g], ⟨by rw [List.length_append]; omega, .inr ⟨g, off, cap, cur', rfl, rfl, g1, hroom, h4, by omega, ?_⟩⟩, by simp, g6, fun b' hb' => ⟨by simp at hb'; subst hb'; exact block_lt g1, .inl hb'⟩⟩
      apply List.ext_getElem?; intro j
      by_cases hj : j < n * size
      · rw [List.getElem?_take_of_lt (by omega), List.getElem?_drop, List.getElem?_append_left (by omega)]
        obtain ⟨u, hu⟩ : ∃ u, xs[j]? = some u := ⟨_, List.getElem?_eq_getElem (by omega)⟩
        rw [hu]
        have := hcell j u hu
        rw [← g3 (off + j) (by omega)] at this
        simpa using this
      · rw [List.getElem?_append_right (by omega), hxl]
        by_cases hj2 : j < (n + m) * size
        · rw [List.getElem?_take_of_lt hj2, List.getElem?_drop]
          have := g5 (j - n * size) (by omega) (by omega)
          rw [show off + n * size + (j - n * size) = off + j by omega] at this
          simpa using this
        · rw [List.getElem?_eq_none (by simp; omega), List.getElem?_eq_none (by omega)]
    · exact grow (some ⟨g, off, none⟩) cap rfl (by omega) fun W' hW' => run_firstCells_some W' size n ⟨g, off, none⟩ n cap xs (by omega) (fun j u hu => by
        rw [addr_add, cell_of_row W' g _ cur e (0, 0) (by rw [hW']; exact hg)]
        exact hcell j u hu)
end Hp
end Go.Proofs.YtcdcipfojfnblaaGreatDoor
