/- What a call holds of its own: blocks known whole, rows that it made, builders: each apart from the others; and how new blocks, stores, appends and calls carry it on. No condition. -/
import Derived.Test.YtgbkpkioijbgoaaDoorSl
import Derived.Lib.FrozenHead
namespace Go.Proofs.YtgbkpkioijbgoaaDoor
open Go.RowKit
set_option linter.unusedVariables false
set_option maxRecDepth 100000

/-- one thing that a call holds -/
inductive Rs where
  | box (g : Nat) (cs : Array Value) (t : TypeId)
  | row (e : TypeId) (size : Nat) (v : Value) (n : Nat) (xs : List Value)
  | gen (p : World → List Nat → Prop) (hp : ∀ W W' fp, p W fp → (∀ b, b ∈ fp → b < W.heap.size ∧ W'.heap[b]? = W.heap[b]?) → p W' fp)
def Rs.holds (W : World) : Rs → List Nat → Prop
  | .box g cs t, fp => W.heap[g]? = some (.cells cs t (0, 0)) ∧ fp = [g]
  | .row e size v n xs, fp => W.ownsRow 0 e size v n xs ∧ fp = v.ownBlock.toList
  | .gen p _, fp => p W fp
theorem ownsRow_of_block {w w' : World} {base : Nat} {e : TypeId} {size : Nat} {v : Value} {n : Nat} {xs : List Value} (h : w.ownsRow base e size v n xs) (hb : ∀ g, v.ownBlock = some g → w'.heap[g]? = w.heap[g]?) : w'.ownsRow base e size v n xs := by
  rcases h.2 with ⟨rfl, h0⟩ | ⟨g, cap, cur, rfl, h1, hg, h2, h3, h4, h5⟩
  · exact ⟨h.1, Or.inl ⟨rfl, h0⟩⟩
  · exact ⟨h.1, Or.inr ⟨g, cap, cur, rfl, h1, (hb g rfl).trans hg, h2, h3, h4, h5⟩⟩
theorem Rs.stable {r : Rs} {W W' : World} {fp : List Nat} (h : r.holds W fp) (hb : ∀ b, b ∈ fp → b < W.heap.size ∧ W'.heap[b]? = W.heap[b]?) : r.holds W' fp := by
  cases r with
  | box g cs t => exact ⟨((hb g (by rw [h.2]; simp)).2).trans h.1, h.2⟩
  | row e size v n xs => exact ⟨ownsRow_of_block h.1 (fun g hg => (hb g (by rw [h.2, hg]; simp)).2), h.2⟩
  | gen p hp => exact hp W W' fp h hb
theorem rowShape {w : World} {base : Nat} {e : TypeId} {size : Nat} {v : Value} {n : Nat} {xs : List Value} (h : w.ownsRow base e size v n xs) : ∃ ad cap, v = .slice ad n cap := by
  rcases h.2 with ⟨rfl, h0⟩ | ⟨g, cap, cur, rfl, _⟩
  · subst h0; exact ⟨_, _, rfl⟩
  · exact ⟨_, _, rfl⟩
inductive All2 {α β : Type} (R : α → β → Prop) : List α → List β → Prop
  | nil : All2 R [] []
  | cons {a b ls bs} : R a b → All2 R ls bs → All2 R (a :: ls) (b :: bs)
theorem All2.imp {α β : Type} {R S : α → β → Prop} : ∀ {ls : List α} {bs : List β}, All2 R ls bs → (∀ a b, b ∈ bs → R a b → S a b) → All2 S ls bs
  | _, _, .nil, _ => .nil
  | _, _, .cons h t, k => .cons (k _ _ (by simp) h) (t.imp fun a b hb hr => k a b (by simp [hb]) hr)
theorem All2.get {α β : Type} {R : α → β → Prop} : ∀ {ls : List α} {bs : List β}, All2 R ls bs → ∀ {i : Nat} {a : α}, ls[i]? = some a → ∃ b, bs[i]? = some b ∧ R a b
  | _, _, .nil, i, a, h => by simp at h
  | _, _, .cons h t, 0, a, e => by simp at e; subst e; exact ⟨_, rfl, h⟩
  | _, _, .cons h t, i + 1, a, e => by
    obtain ⟨b, hb, hr⟩ := t.get (i := i) (by simpa using e)
    exact ⟨b, by simpa using hb, hr⟩
theorem All2.set {α β : Type} {R : α → β → Prop} : ∀ {ls : List α} {bs : List β}, All2 R ls bs → ∀ (i : Nat) {a : α} {b : β}, R a b → All2 R (ls.set i a) (bs.set i b)
  | _, _, .nil, i, a, b, h => .nil
  | _, _, .cons h t, 0, a, b, hr => .cons hr t
  | _, _, .cons h t, i + 1, a, b, hr => .cons h (t.set i hr)
theorem All2.erase {α β : Type} {R : α → β → Prop} : ∀ {ls : List α} {bs : List β}, All2 R ls bs → ∀ (i : Nat), All2 R (ls.eraseIdx i) (bs.eraseIdx i)
  | _, _, .nil, i => .nil
  | _, _, .cons h t, 0 => t
  | _, _, .cons h t, i + 1 => .cons h (t.erase i)
theorem All2.swap {α β : Type} {R : α → β → Prop} {ls : List α} {bs : List β} (h : All2 R ls bs) {i : Nat} {a : α} (hi : ls[i]? = some a) : ∃ b, bs[i]? = some b ∧ R a b ∧ All2 R (a :: ls.eraseIdx i) (b :: bs.eraseIdx i) := by
  obtain ⟨b, hb, hr⟩ := h.get hi
  exact ⟨b, hb, hr, .cons hr (h.erase i)⟩
theorem erase_flat {β : Type} : ∀ (bs : List (List β)) (i : Nat), (bs.eraseIdx i).flatten.Sublist bs.flatten
  | [], i => by simp
  | x :: bs, 0 => by rw [List.eraseIdx_zero, List.tail_cons, List.flatten_cons]; exact List.sublist_append_right _ _
  | x :: bs, i + 1 => by rw [List.eraseIdx_cons_succ, List.flatten_cons, List.flatten_cons]; exact (List.Sublist.refl x).append (erase_flat bs i)
theorem All2.perm {α β : Type} {R : α → β → Prop} {ls ms : List α} (p : ls.Perm ms) : ∀ {bs : List β}, All2 R ls bs → ∃ cs, All2 R ms cs ∧ bs.Perm cs := by
  induction p with
  | nil => intro bs h; cases h; exact ⟨[], .nil, List.Perm.refl _⟩
  | cons x _ ih =>
    intro bs h
    cases h with
    | cons a t =>
      obtain ⟨cs, h1, h2⟩ := ih t
      exact ⟨_, .cons a h1, h2.cons _⟩
  | swap x y l =>
    intro bs h
    cases h with
    | cons a t =>
      cases t with
      | cons b t => exact ⟨_, .cons b (.cons a t), List.Perm.swap _ _ _⟩
  | trans _ _ ih1 ih2 =>
    intro bs h
    obtain ⟨cs, h1, h2⟩ := ih1 h
    obtain ⟨ds, h3, h4⟩ := ih2 h1
    exact ⟨ds, h3, h2.trans h4⟩
theorem perm_pull {β : Type} : ∀ (bs : List β) (i : Nat) (b : β), bs[i]? = some b → bs.Perm (b :: bs.eraseIdx i)
  | [], i, b, h => by simp at h
  | x :: bs, 0, b, h => by simp at h; subst h; exact List.Perm.refl _
  | x :: bs, i + 1, b, h => by
    have := perm_pull bs i b (by simpa using h)
    exact (List.Perm.cons x this).trans (List.Perm.swap b x _)
/-- all that a call holds: w is the world where it began, X what it may turn of the elder memory -/
def Hp (w : World) (X : List Nat) (rs : List Rs) (W : World) : Prop :=
  ∃ fps : List (List Nat), All2 (fun r fp => r.holds W fp) rs fps ∧ fps.flatten.Nodup ∧ (∀ b, b ∈ fps.flatten → b < W.heap.size ∧ (b ∈ X ∨ w.heap.size ≤ b)) ∧ Keeps X w W
namespace Hp
variable {w W W' : World} {X : List Nat} {rs : List Rs}
theorem none_ (w : World) (X : List Nat) : Hp w X [] w := ⟨[], .nil, by simp, by simp, Keeps.refl _ _⟩
theorem kp (h : Hp w X rs W) : Keeps X w W := h.choose_spec.2.2.2
theorem bel (h : Hp w [] rs W) : Below w.heap.size w W := h.kp.below (Nat.le_refl _) (by simp)
theorem size (h : Hp w X rs W) : w.heap.size ≤ W.heap.size := h.kp.size
theorem keepsOut (h : Hp w X rs W) {Y : List Nat} (k : Keeps Y W W') (hY : ∀ y, y ∈ Y → y ∈ X ∨ w.heap.size ≤ y) : Keeps X w W' :=
  ⟨k.os.trans h.kp.os, k.tape.trans h.kp.tape, k.output.trans h.kp.output, Nat.le_trans h.kp.size k.size, fun i hi hx => (k.block i (Nat.lt_of_lt_of_le hi h.kp.size) (fun hy => by rcases hY i hy with h1 | h1; exact hx h1; omega)).trans (h.kp.block i hi hx)⟩
/-- new blocks and calls that make memory alone -/
theorem below (h : Hp w X rs W) (k : Below W.heap.size W W') : Hp w X rs W' := by
  have hk := h.keepsOut (Keeps.ofBelow k []) (by simp)
  obtain ⟨fps, h1, h2, h3, h4⟩ := h
  refine ⟨fps, h1.imp fun r fp hfp hr => Rs.stable hr fun b hb => ?_, h2, fun b hb => ⟨Nat.lt_of_lt_of_le (h3 b hb).1 k.size, (h3 b hb).2⟩, hk⟩
  have := (h3 b (List.mem_flatten.2 ⟨fp, hfp, hb⟩)).1
  exact ⟨this, k.block b this⟩
theorem drew (h : Hp w X rs W) : Hp w X rs W.drew := h.below (Below.refl _ _).drew
theorem drewN (h : Hp w X rs W) (n : Nat) : Hp w X rs (W.drewN n) := h.below (belowDrewN (Below.refl _ _) n)
theorem alloc_ (h : Hp w X rs W) (o : Obj) : Hp w X rs (W.alloc o) := h.below ((Below.refl _ _).alloc (Nat.le_refl _) _)
/-- what is held is turned ls the thing at place i is, alone -/
theorem upd (h : Hp w X rs W) {i : Nat} {r : Rs} (hi : rs[i]? = some r) (r' : Rs) (H : ∀ fp, r.holds W fp → ∃ fp', r'.holds W' fp' ∧ fp'.Nodup ∧ Keeps fp W W' ∧ (∀ b, b ∈ fp' → b < W'.heap.size ∧ (b ∈ fp ∨ W.heap.size ≤ b))) : Hp w X (rs.set i r') W' := by
  have h0 := h
  obtain ⟨fps, h1, h2, h3, h4⟩ := h
  obtain ⟨fp, hfp, hr⟩ := h1.get hi
  obtain ⟨fp', g1, g2, g3, g4⟩ := H fp hr
  have hin : ∀ b, b ∈ fp → b ∈ fps.flatten := fun b hb => List.mem_flatten.2 ⟨fp, List.mem_of_getElem? hfp, hb⟩
  have hp : fps.Perm (fp :: fps.eraseIdx i) := perm_pull fps i fp hfp
  have hil : i < fps.length := (List.getElem?_eq_some_iff.1 hfp).1
  have hset : (fps.set i fp')[i]? = some fp' := by rw [List.getElem?_set]; simp [hil]
  have her : (fps.set i fp').eraseIdx i = fps.eraseIdx i := by
    apply List.ext_getElem?; intro j
    rw [List.getElem?_eraseIdx, List.getElem?_eraseIdx]
    split
    · rw [List.getElem?_set_ne (by omega)]
    · rw [List.getElem?_set_ne (by omega)]
  have hp' : (fps.set i fp').Perm (fp' :: fps.eraseIdx i) := by
    have := perm_pull (fps.set i fp') i fp' hset
    rwa [her] at this
  have hf := hp.flatten
  have hf' := hp'.flatten
  rw [List.flatten_cons] at hf hf'
  have hn := (hf.nodup_iff).1 h2
  rw [List.nodup_append] at hn
  obtain ⟨n1, n2, n3⟩ := hn
  have hrest : ∀ b, b ∈ (fps.eraseIdx i).flatten → b ∈ fps.flatten := fun b hb => (hf.mem_iff).2 (List.mem_append.2 (Or.inr hb))
  have hnin : ∀ b, b ∈ (fps.eraseIdx i).flatten → b ∉ fp := fun b hb hb2 => n3 b hb2 b hb rfl
  have hsame : ∀ b, b ∈ (fps.eraseIdx i).flatten → W'.heap[b]? = W.heap[b]? := fun b hb => g3.block b (h3 b (hrest b hb)).1 (hnin b hb)
  have hk := h0.keepsOut g3 (fun y hy => (h3 y (hin y hy)).2)
  refine ⟨fps.set i fp', ?_, ?_, ?_, hk⟩
  · -- each thing still holds
    have hall : ∀ (ls : List Rs) (bs : List (List Nat)) (j : Nat), All2 (fun r fp => r.holds W fp) ls bs → (∀ b, b ∈ (bs.eraseIdx j).flatten → b < W.heap.size ∧ W'.heap[b]? = W.heap[b]?) → All2 (fun r fp => r.holds W' fp) (ls.set j r') (bs.set j fp') := by
      intro ls bs j ha
      induction ha generalizing j with
      | nil => intro _; exact .nil
      | cons hab htl ih =>
        intro hb
        cases j with
        | zero => exact .cons g1 (htl.imp fun a b hbm hr => Rs.stable hr fun x hx => hb x (List.mem_flatten.2 ⟨b, by simpa using hbm, hx⟩))
        | succ j => exact .cons (Rs.stable hab fun x hx => hb x (by simp [List.eraseIdx_cons_succ, hx])) (ih j fun x hx => hb x (by rw [List.eraseIdx_cons_succ, List.flatten_cons, List.mem_append]; exact Or.inr hx))
    exact hall rs fps i h1 fun b hb => ⟨(h3 b (hrest b hb)).1, hsame b hb⟩
  · rw [hf'.nodup_iff, List.nodup_append]
    refine ⟨g2, n2, ?_⟩
    intro a ha b hb e
    subst e
    rcases (g4 a ha).2 with h5 | h5
    · exact hnin a hb h5
    · have := (h3 a (hrest a hb)).1; omega
  · intro b hb
    rw [hf'.mem_iff, List.mem_append] at hb
    rcases hb with hb | hb
    · refine ⟨(g4 b hb).1, ?_⟩
      rcases (g4 b hb).2 with h5 | h5
      · exact (h3 b (hin b h5)).2
      · exact Or.inr (Nat.le_trans h4.size h5)
    · exact ⟨Nat.lt_of_lt_of_le (h3 b (hrest b hb)).1 g3.size, (h3 b (hrest b hb)).2⟩
/-- a new thing -/
theorem new (h : Hp w X rs W) (r' : Rs) {fp' : List Nat} (g1 : r'.holds W' fp') (g2 : fp'.Nodup) (g3 : Below W.heap.size W W') (g4 : ∀ b, b ∈ fp' → b < W'.heap.size ∧ W.heap.size ≤ b) : Hp w X (r' :: rs) W' := by
  have hb := h.below g3
  obtain ⟨fps0, k1, k2, k3, k4⟩ := h
  have hs := k4.size
  refine ⟨fp' :: fps0, .cons g1 (k1.imp fun r fp hfp hr => Rs.stable hr fun b hb => ?_), ?_, ?_, hb.kp⟩
  · have := (k3 b (List.mem_flatten.2 ⟨fp, hfp, hb⟩)).1
    exact ⟨this, g3.block b this⟩
  · rw [List.flatten_cons, List.nodup_append]
    refine ⟨g2, k2, ?_⟩
    intro a ha b hb e
    subst e
    have := (g4 a ha).2
    have := (k3 a hb).1
    omega
  · intro b hb
    rw [List.flatten_cons, List.mem_append] at hb
    rcases hb with hb | hb
    · exact ⟨(g4 b hb).1, Or.inr (Nat.le_trans hs (g4 b hb).2)⟩
    · exact ⟨Nat.lt_of_lt_of_le (k3 b hb).1 g3.size, (k3 b hb).2⟩
/-- a thing of the elder memory that the call may turn -/
theorem lend {g : Nat} {cs : Array Value} {t : TypeId} (hg : w.heap[g]? = some (.cells cs t (0, 0))) : Hp w [g] [.box g cs t] w :=
  ⟨[[g]], .cons ⟨hg, rfl⟩ .nil, by simp, by intro b hb; simp at hb; subst hb; exact ⟨block_lt hg, Or.inl (by simp)⟩, Keeps.refl _ _⟩
/-- things are let go -/
theorem drop (h : Hp w X rs W) (i : Nat) : Hp w X (rs.eraseIdx i) W := by
  obtain ⟨fps, h1, h2, h3, h4⟩ := h
  have hs : (fps.eraseIdx i).flatten.Sublist fps.flatten := erase_flat fps i
  exact ⟨fps.eraseIdx i, h1.erase i, hs.nodup h2, fun b hb => h3 b (hs.subset hb), h4⟩
/-- in another order -/
theorem perm (h : Hp w X rs W) {rs' : List Rs} (p : rs.Perm rs') : Hp w X rs' W := by
  obtain ⟨fps, h1, h2, h3, h4⟩ := h
  obtain ⟨cs, g1, g2⟩ := All2.perm p h1
  have gf := g2.flatten
  exact ⟨cs, g1, (gf.nodup_iff).1 h2, fun b hb => h3 b ((gf.mem_iff).2 hb), h4⟩
/-- a new box -/
theorem alloc (h : Hp w X rs W) (cs : Array Value) (t : TypeId) : Hp w X (.box W.heap.size cs t :: rs) (W.alloc (.cells cs t)) :=
  h.new _ (fp' := [W.heap.size]) ⟨heap_alloc_new W _, rfl⟩ (by simp) ((Below.refl _ _).alloc (Nat.le_refl _) _) (by simp)
/-- a box that a call made -/
theorem made (h : Hp w X rs W) {g : Nat} {cs : Array Value} {t : TypeId} (hg : W'.heap[g]? = some (.cells cs t (0, 0))) (hs : W.heap.size ≤ g) (k : Below W.heap.size W W') : Hp w X (.box g cs t :: rs) W' :=
  h.new _ (fp' := [g]) ⟨hg, rfl⟩ (by simp) k (by intro b hb; simp at hb; subst hb; exact ⟨block_lt hg, hs⟩)
/-- an empty row, nil -/
theorem rowNil (h : Hp w X rs W) (e : TypeId) (size : Nat) : Hp w X (.row e size (.slice none 0 0) 0 [] :: rs) W :=
  h.new _ (fp' := []) ⟨World.ownsRow_nil W 0 e size, rfl⟩ (by simp) (Below.refl _ _) (by simp)
/-- a row that is laid whole -/
theorem rowLit (h : Hp w X rs W) (cs : Array Value) (e : TypeId) (size n : Nat) (hn : n ≤ maxLen) (hs : cs.size = n * size) : Hp w X (.row e size (.slice (some ⟨W.heap.size, 0, none⟩) n n) n cs.toList :: rs) (W.alloc (.cells cs e)) :=
  h.new _ (fp' := [W.heap.size]) ⟨World.ownsRow_lit W cs n (Nat.zero_le _) hn hs, rfl⟩ (by simp) ((Below.refl _ _).alloc (Nat.le_refl _) _) (by simp)
section
variable {i g : Nat} {cs : Array Value} {t : TypeId}
theorem box (h : Hp w X rs W) (hi : rs[i]? = some (.box g cs t)) : W.heap[g]? = some (.cells cs t (0, 0)) := by
  obtain ⟨fps, h1, _⟩ := h
  obtain ⟨fp, _, hr⟩ := h1.get hi
  exact hr.1
theorem cell (h : Hp w X rs W) (hi : rs[i]? = some (.box g cs t)) (j : Nat) : W.cell? ⟨g, j, none⟩ = cs[j]? := cell_of_row _ _ j _ _ _ (h.box hi)
theorem free (h : Hp w X rs W) (hi : rs[i]? = some (.box g cs t)) (j : Nat) : W.frozen? ⟨g, j, none⟩ = false := by simp [World.frozen?, h.box hi]
theorem lt (h : Hp w X rs W) (hi : rs[i]? = some (.box g cs t)) : g < W.heap.size := block_lt (h.box hi)
theorem ne (h : Hp w X rs W) {j g' : Nat} {cs' : Array Value} {t' : TypeId} (hi : rs[i]? = some (.box g cs t)) (hj : rs[j]? = some (.box g' cs' t')) (hij : i ≠ j) : g ≠ g' := by
  rintro rfl
  obtain ⟨fps, h1, h2, _⟩ := h
  obtain ⟨fp, e1, r1⟩ := h1.get hi
  obtain ⟨fp', e2, r2⟩ := h1.get hj
  have hp := (perm_pull fps i fp e1).flatten
  rw [List.flatten_cons] at hp
  have hn := (hp.nodup_iff).1 h2
  rw [List.nodup_append] at hn
  refine hn.2.2 g (by rw [r1.2]; simp) g (List.mem_flatten.2 ⟨fp', ?_, by rw [r2.2]; simp⟩) rfl
  rw [List.mem_eraseIdx_iff_getElem?]
  exact ⟨j, fun e => hij e.symm, e2⟩
/-- a store into a box -/
theorem put (h : Hp w X rs W) (hi : rs[i]? = some (.box g cs t)) (j : Nat) (v : Value) : Hp w X (rs.set i (.box g (cs.setIfInBounds j v) t)) (W.setCell ⟨g, j, none⟩ v) :=
  h.upd hi _ fun fp hr => by
    obtain ⟨hr, rfl⟩ := hr
    refine ⟨[g], ⟨heap_setCell_same W g j cs t v hr, rfl⟩, by simp, (Keeps.refl _ _).setCell (p := ⟨g, j, none⟩) (Or.inl (by simp)) _, ?_⟩
    intro b hb
    simp at hb; subst hb
    have := block_lt hr
    exact ⟨by simpa [World.setCell] using this, Or.inl (by simp)⟩
/-- a call that turns a box, no matter how: it is let go -/
theorem lose (h : Hp w X rs W) (hi : rs[i]? = some (.box g cs t)) (k : Keeps [g] W W') : Hp w X (rs.eraseIdx i) W' := by
  have := h.upd (W' := W') hi (.gen (fun _ fp => fp = []) (fun _ _ _ h _ => h)) (fun fp hr => by
    obtain ⟨hr, rfl⟩ := hr
    exact ⟨[], rfl, by simp, k, by simp⟩)
  have h2 := this.drop i
  have e : (rs.set i (.gen (fun _ fp => fp = []) (fun _ _ _ h _ => h))).eraseIdx i = rs.eraseIdx i := by
    apply List.ext_getElem?; intro j
    rw [List.getElem?_eraseIdx, List.getElem?_eraseIdx]
    split
    · rw [List.getElem?_set_ne (by omega)]
    · rw [List.getElem?_set_ne (by omega)]
  rwa [e] at h2
/-- a call that turns a box alone -/
theorem call (h : Hp w X rs W) (hi : rs[i]? = some (.box g cs t)) {cs' : Array Value} (hg : W'.heap[g]? = some (.cells cs' t (0, 0))) (k : Keeps [g] W W') : Hp w X (rs.set i (.box g cs' t)) W' :=
  h.upd hi _ fun fp hr => by
    obtain ⟨hr, rfl⟩ := hr
    refine ⟨[g], ⟨hg, rfl⟩, by simp, k, ?_⟩
    intro b hb
    simp at hb; subst hb
    exact ⟨block_lt hg, Or.inl (by simp)⟩
end
section
variable {i : Nat} {e : TypeId} {size n : Nat} {v : Value} {xs : List Value}
theorem row (h : Hp w X rs W) (hi : rs[i]? = some (.row e size v n xs)) : W.ownsRow 0 e size v n xs := by
  obtain ⟨fps, h1, _⟩ := h
  obtain ⟨fp, _, hr⟩ := h1.get hi
  exact hr.1
theorem sl (h : Hp w X rs W) (hi : rs[i]? = some (.row e size v n xs)) (hn : n ≤ 140737488355328) : Sl W v n xs := Sl.ofRow (h.row hi) hn
/-- what a callee holds and hands back is the caller's -/
theorem take (h : Hp w X rs W) {rs' : List Rs} (h' : Hp W [] rs' W') : Hp w X (rs' ++ rs) W' := by
  have hb := h.below h'.bel
  obtain ⟨fps, h1, h2, h3, h4⟩ := h
  obtain ⟨fps', g1, g2, g3, g4⟩ := h'
  have hbl : Below W.heap.size W W' := g4.below (Nat.le_refl _) (by simp)
  have happ : ∀ {ls ms : List Rs} {ps qs : List (List Nat)}, All2 (fun r fp => r.holds W' fp) ls ps → All2 (fun r fp => r.holds W' fp) ms qs → All2 (fun r fp => r.holds W' fp) (ls ++ ms) (ps ++ qs) := fun h k => by
    induction h with
    | nil => exact k
    | cons a _ ih => exact .cons a ih
  refine ⟨fps' ++ fps, happ g1 (h1.imp fun r fp hfp hr => Rs.stable hr fun b hb => ?_), ?_, ?_, hb.kp⟩
  · have := (h3 b (List.mem_flatten.2 ⟨fp, hfp, hb⟩)).1
    exact ⟨this, hbl.block b this⟩
  · rw [List.flatten_append, List.nodup_append]
    refine ⟨g2, h2, ?_⟩
    intro a ha b hb e
    subst e
    have := (h3 a hb).1
    rcases (g3 a ha).2 with h5 | h5
    · simp at h5
    · omega
  · intro b hb
    rw [List.flatten_append, List.mem_append] at hb
    rcases hb with hb | hb
    · refine ⟨(g3 b hb).1, Or.inr ?_⟩
      rcases (g3 b hb).2 with h5 | h5
      · simp at h5
      · exact Nat.le_trans h4.size h5
    · exact ⟨Nat.lt_of_lt_of_le (h3 b hb).1 hbl.size, (h3 b hb).2⟩
/-- behind an append to a row -/
theorem grown (h : Hp w X rs W) (hi : rs[i]? = some (.row e size v n xs)) {g cap m : Nat} {ys : List Value} (h1 : W'.ownsRow 0 e size (.slice (some ⟨g, 0, none⟩) m cap) m ys) (h2 : W.grownBy W' v.ownBlock) (h3 : v.ownBlock = some g ∨ g = W.heap.size) (h4 : g < W'.heap.size) : Hp w X (rs.set i (.row e size (.slice (some ⟨g, 0, none⟩) m cap) m ys)) W' :=
  h.upd hi _ fun fp hr => by
    obtain ⟨hr, rfl⟩ := hr
    refine ⟨[g], ⟨h1, rfl⟩, by simp, ⟨h2.os, h2.tape, h2.output, h2.size, fun k hk hx => h2.block k hk (fun e => hx (by rw [← e]; simp))⟩, ?_⟩
    intro b hb
    simp at hb; subst hb
    refine ⟨h4, ?_⟩
    rcases h3 with h3 | h3
    · exact Or.inl (by rw [h3]; simp)
    · exact Or.inr (by omega)
end
end Hp
/-- 'append(v, x)' of one element that lies in block q, to a row that is held -/
theorem wpList_append_hp {w W : World} {X : List Nat} {rs : List Rs} {ops : Array Oper} {rest : List Oper} {o : Oper} {a : Act} {Q : Exit → Act → World → Prop} (hgd : o.guard = none) (s x : Operand) {t e : TypeId} {z : Value} {size bytes : Nat}
    (ho : o.op = .call { callee := .builtin .append, args := #[s, x], argTypes := #[t, t] })
    (ht : Tryd.prog.underlying t = some (.slice e)) (hI : (Tryd.prog.info? e).map (fun i => (i.zero, i.size, i.bytes)) = some (some z, size, bytes)) (hzs : z.cells.size = size) (hsz : 0 < size) (hby : bytes ≤ 1000)
    (h : Hp w X rs W) (i : Nat) {v : Value} {n : Nat} {xs : List Value} (hi : rs[i]? = some (.row e size v n xs)) (hs : a.eval s = v) (g c : Nat) (ys : List Value) (hx : a.eval x = .slice (some ⟨g, 0, none⟩) 1 c)
    (hys : ys.length = size) (hc : ∀ j u, ys[j]? = some u → W.cell? ⟨g, j, none⟩ = some u) (h1 : ∀ u ∈ ys, u.oneCell' = true) (hl : n < 100000000)
    (hn : ∀ v' W', Hp w X (rs.set i (.row e size v' (n + 1) (xs ++ ys))) W' → (∃ b cap, v' = .slice (some ⟨b, 0, none⟩) (n + 1) cap) → wpList Tryd.prog ops Q rest (a.put o.dst v') W') : wpList Tryd.prog ops Q (o :: rest) a W := by
  obtain ⟨inf, hi2, hz, hsz2, hby2⟩ := info_parts hI
  have hm : (n + 1) * bytes ≤ 100000000 * 1000 := Nat.mul_le_mul (by omega) hby
  refine wpList_append_lies W hgd s x t ho 0 e inf z size bytes ht hi2 hz hsz2 hby2 hzs hsz v n xs hs (h.row hi) ⟨g, 0, none⟩ 1 c ys hx (by omega) ?_ h1 (by decide) (by unfold maxLen; omega) (by omega) (Nat.zero_le _) W.heap.size rfl ?_
  · intro j u hj
    rw [addr_add, Nat.zero_add]
    exact hc j u hj
  · intro g' cap w' h2 h3 h4 h5
    exact hn _ _ (h.grown hi h2 h3 h4 h5) ⟨_, _, rfl⟩
end Go.Proofs.YtgbkpkioijbgoaaDoor
