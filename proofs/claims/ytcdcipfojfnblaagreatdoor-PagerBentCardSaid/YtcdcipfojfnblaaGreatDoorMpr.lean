/- Maps that are held: texts by texts (their keys read as texts), and sets of integers. No condition. -/
import Derived.Test.YtcdcipfojfnblaaGreatDoorBook
import Derived.Test.YtcdcipfojfnblaaGreatDoorSpace
import Derived.Test.YtcdcipfojfnblaaGreatDoorHpFrame
namespace Go.Proofs.YtcdcipfojfnblaaGreatDoor.mpr
open Go.RowKit
set_option linter.unusedVariables false
set_option maxRecDepth 100000

/-- a map of texts -/
def MStR (kt : TypeId) (m : Nat) (f : List UInt8 → Option (List UInt8)) (c : Nat) (W : World) (fp : List Nat) : Prop :=
  (∃ D : DataW Unit, W.ownsMap Tryz.prog kt sha.noteElem m c D ∧ Maps.size D = c ∧ (∀ k, Maps.has D (.string k) = (f k).isSome) ∧ (∀ k t z, f k = some t → D.atKey (.string k) z = .lit (.string t))) ∧ fp = [m]
theorem MStR.keep (kt : TypeId) (m : Nat) (f : List UInt8 → Option (List UInt8)) (c : Nat) (W W' : World) (fp : List Nat) (h : MStR kt m f c W fp) (hb : ∀ b, b ∈ fp → b < W.heap.size ∧ W'.heap[b]? = W.heap[b]?) : MStR kt m f c W' fp := by
  obtain ⟨⟨D, h1, h2⟩, rfl⟩ := h
  exact ⟨⟨D, ownsMap_of_block h1 (hb m (by simp)).2, h2⟩, rfl⟩
def mst (kt : TypeId) (m : Nat) (f : List UInt8 → Option (List UInt8)) (c : Nat) : Rs := .gen (MStR kt m f c) (MStR.keep kt m f c)
/-- a set of integers -/
def MSetR (m : Nat) (f : Int → Bool) (c : Nat) (W : World) (fp : List Nat) : Prop :=
  (∃ D : DataW Unit, W.ownsMap Tryz.prog 3 unitElem m c D ∧ Maps.size D = c ∧ (∀ x, Maps.has D (space.at_ x) = f x)) ∧ fp = [m]
theorem MSetR.keep (m : Nat) (f : Int → Bool) (c : Nat) (W W' : World) (fp : List Nat) (h : MSetR m f c W fp) (hb : ∀ b, b ∈ fp → b < W.heap.size ∧ W'.heap[b]? = W.heap[b]?) : MSetR m f c W' fp := by
  obtain ⟨⟨D, h1, h2⟩, rfl⟩ := h
  exact ⟨⟨D, ownsMap_of_block h1 (hb m (by simp)).2, h2⟩, rfl⟩
def mset (m : Nat) (f : Int → Bool) (c : Nat) : Rs := .gen (MSetR m f c) (MSetR.keep m f c)
section
variable {w W W' : World} {X : List Nat} {rs : List Rs} {kt : TypeId} {m c : Nat} {f : List UInt8 → Option (List UInt8)} {g : Int → Bool}
theorem mst_new (h : Hp w X rs W) (kt : TypeId) : Hp w X (mst kt W.heap.size (fun _ => none) 0 :: rs) (W.alloc (.map #[] 0)) :=
  h.new _ (fp' := [W.heap.size]) ⟨⟨.map [], World.ownsMap_made W _ _ _, rfl, fun _ => rfl, fun _ _ _ h => by cases h⟩, rfl⟩ (by simp) ((Below.refl _ _).alloc (Nat.le_refl _) _) (by simp)
theorem mset_new (h : Hp w X rs W) : Hp w X (mset W.heap.size (fun _ => false) 0 :: rs) (W.alloc (.map #[] 0)) :=
  h.new _ (fp' := [W.heap.size]) ⟨⟨.map [], World.ownsMap_made W _ _ _, rfl, fun _ => rfl⟩, rfl⟩ (by simp) ((Below.refl _ _).alloc (Nat.le_refl _) _) (by simp)
theorem mst_get (h : Hp w X rs W) {i : Nat} (hi : rs[i]? = some (mst kt m f c)) : ∃ D : DataW Unit, W.ownsMap Tryz.prog kt sha.noteElem m c D ∧ Maps.size D = c ∧ (∀ k, Maps.has D (.string k) = (f k).isSome) ∧ (∀ k t z, f k = some t → D.atKey (.string k) z = .lit (.string t)) := by
  obtain ⟨fp, hd, _⟩ := h.get hi
  exact hd
theorem mset_get (h : Hp w X rs W) {i : Nat} (hi : rs[i]? = some (mset m g c)) : ∃ D : DataW Unit, W.ownsMap Tryz.prog 3 unitElem m c D ∧ Maps.size D = c ∧ (∀ x, Maps.has D (space.at_ x) = g x) := by
  obtain ⟨fp, hd, _⟩ := h.get hi
  exact hd
theorem atKey_none {D : DataW Unit} {k : Lit} (h : Maps.has D k = false) (z : DataW Unit) : D.atKey k z = z := by
  cases D <;> try rfl
  rename_i es
  have h' : es.any (fun p => p.1.sameKey k) = false := h
  have h2 : es.find? (fun p => p.1.sameKey k) = none := List.find?_eq_none.2 (fun p hp => by simpa using (List.any_eq_false.1 h' p hp))
  simp only [DataW.atKey, h2]
/-- what is looked up, in whatever world that has the map -/
theorem mst_look (h : Hp w X rs W) {i : Nat} (hi : rs[i]? = some (mst kt m f c)) (K : Maps.Keyed Tryz.prog kt) {t e : TypeId} (ht : Tryz.prog.underlying t = some (.map kt e)) (hz : ∀ W', (zeroValue e).run Tryz.prog W' = .ok (.agg #[.string ⟨#[]⟩]) W') {key : Value} {k : List UInt8} (hk : keyOf Tryz.prog kt key = some (.string k)) (W' : World) (hW : W'.heap[m]? = W.heap[m]?) :
    (Instr.lookup t (.map (some m)) key true).run Tryz.prog W' = .ok (.tuple #[.agg #[.string (str ((f k).getD []))], .bool (f k).isSome]) W' := by
  obtain ⟨D, h1, h2, h3, h4⟩ := mst_get h hi
  obtain ⟨v, ps, hr, hv⟩ := (ownsMap_of_block h1 hW).look_ok K ht (hz W') (sha.noteElem_mk _) hk
  obtain ⟨s, rfl, hv2⟩ := sha.noteElem_inv hv
  rw [hr, h3]
  have e : s = str ((f k).getD []) := by
    cases hf : f k with
    | some t0 =>
      rw [h4 _ _ _ hf] at hv2
      injection hv2 with hv2 _
      injection hv2 with hv2
      injection hv2 with hv2
      simp only [Option.getD_some]
      rw [hv2]
      exact (str_of s).symm
    | none =>
      have h5 := h3 k
      rw [hf] at h5
      rw [atKey_none (by simpa using h5)] at hv2
      injection hv2 with hv2 _
      injection hv2 with hv2
      injection hv2 with hv2
      simp only [Option.getD_none]
      rw [← str_of s, ← hv2]
  rw [e]
/-- an entry is laid -/
theorem mst_put (h : Hp w X rs W) {i : Nat} (hi : rs[i]? = some (mst kt m f c)) (K : Maps.Keyed Tryz.prog kt) {D : DataW Unit} (h0 : W.ownsMap Tryz.prog kt sha.noteElem m c D) (h2 : Maps.size D = c) (h3 : ∀ k, Maps.has D (.string k) = (f k).isSome) (h4 : ∀ k t z, f k = some t → D.atKey (.string k) z = .lit (.string t)) {k s : List UInt8}
    (h1 : W'.ownsMap Tryz.prog kt sha.noteElem m (c + 1) (D.put (.string k) (.lit (.string s)))) (ht : W.mapTurned W' m) : Hp w X (rs.set i (mst kt m (fun j => if j = k then some s else f j) (if (f k).isSome then c else c + 1))) W' :=
  h.upd hi _ fun fp hr => by
    obtain ⟨_, rfl⟩ := hr
    have hT := h0.tidy K
    have hne : ∀ j, j ≠ k → (Lit.string j) ≠ (Lit.string k) := fun j e q => by injection q with q; exact e q
    have hz : Maps.size (D.put (.string k) (.lit (.string s))) = if (f k).isSome then c else c + 1 := by
      rw [Maps.size_put hT, h3, h2]
    refine ⟨[m], ⟨⟨_, hz ▸ ownsMap_tight h1, hz, ?_, ?_⟩, rfl⟩, by simp, (Keeps.refl [m] W).turned (Or.inl (by simp)) ht, ?_⟩
    · intro j
      by_cases e : j = k
      · subst e; rw [Maps.has_put_same hT.isMap (show WideAt.IsKeyLit (Lit.string _) from trivial)]; simp
      · rw [Maps.has_put_other (hne j e), h3]; simp [e]
    · intro j t z
      by_cases e : j = k
      · subst e; intro hj; simp at hj; subst hj; rw [Maps.atKey_put_same hT.isMap (show WideAt.IsKeyLit (Lit.string _) from trivial)]
      · intro hj; simp [e] at hj; rw [Maps.atKey_put_other (hne j e)]; exact h4 j t z hj
    · intro b hb
      simp at hb; subst hb
      exact ⟨ownsMap_lt h1, Or.inl (by simp)⟩
/-- an entry goes -/
theorem mst_del (h : Hp w X rs W) {i : Nat} (hi : rs[i]? = some (mst kt m f c)) (K : Maps.Keyed Tryz.prog kt) {D : DataW Unit} (h0 : W.ownsMap Tryz.prog kt sha.noteElem m c D) (h2 : Maps.size D = c) (h3 : ∀ k, Maps.has D (.string k) = (f k).isSome) (h4 : ∀ k t z, f k = some t → D.atKey (.string k) z = .lit (.string t)) {k : List UInt8}
    (h1 : W'.ownsMap Tryz.prog kt sha.noteElem m c (D.del (.string k))) (ht : W.mapTurned W' m) : Hp w X (rs.set i (mst kt m (fun j => if j = k then none else f j) (if (f k).isSome then c - 1 else c))) W' :=
  h.upd hi _ fun fp hr => by
    obtain ⟨_, rfl⟩ := hr
    have hT := h0.tidy K
    have hne : ∀ j, j ≠ k → (Lit.string j) ≠ (Lit.string k) := fun j e q => by injection q with q; exact e q
    have hz : Maps.size (D.del (.string k)) = if (f k).isSome then c - 1 else c := by
      have := Maps.size_del (k := .string k) hT
      rw [h3, h2] at this
      split at this <;> split <;> simp_all <;> omega
    refine ⟨[m], ⟨⟨_, hz ▸ ownsMap_tight h1, hz, ?_, ?_⟩, rfl⟩, by simp, (Keeps.refl [m] W).turned (Or.inl (by simp)) ht, ?_⟩
    · intro j
      by_cases e : j = k
      · subst e; rw [Maps.has_del_same]; simp
      · rw [Maps.has_del_other (hne j e), h3]; simp [e]
    · intro j t z
      by_cases e : j = k
      · subst e; intro hj; simp at hj
      · intro hj; simp [e] at hj; rw [Maps.atKey_del_other (hne j e)]; exact h4 j t z hj
    · intro b hb
      simp at hb; subst hb
      exact ⟨ownsMap_lt h1, Or.inl (by simp)⟩
theorem mset_put (h : Hp w X rs W) {i : Nat} (hi : rs[i]? = some (mset m g c)) (K : Maps.Keyed Tryz.prog 3) {D : DataW Unit} (h0 : W.ownsMap Tryz.prog 3 unitElem m c D) (h2 : Maps.size D = c) (h3 : ∀ x, Maps.has D (space.at_ x) = g x) {x : Int}
    (h1 : W'.ownsMap Tryz.prog 3 unitElem m (c + 1) (D.put (space.at_ x) (.agg []))) (ht : W.mapTurned W' m) : Hp w X (rs.set i (mset m (fun y => g y || y == x) (if g x then c else c + 1))) W' :=
  h.upd hi _ fun fp hr => by
    obtain ⟨_, rfl⟩ := hr
    have hT := h0.tidy K
    have hz : Maps.size (D.put (space.at_ x) (.agg [])) = if g x then c else c + 1 := by
      rw [Maps.size_put hT, h3, h2]
    refine ⟨[m], ⟨⟨_, hz ▸ ownsMap_tight h1, hz, ?_⟩, rfl⟩, by simp, (Keeps.refl [m] W).turned (Or.inl (by simp)) ht, ?_⟩
    · intro y
      by_cases e : y = x
      · subst e; rw [Maps.has_put_same hT.isMap (show WideAt.IsKeyLit (space.at_ _) from trivial)]; simp
      · rw [Maps.has_put_other (space.at_ne e), h3]; simp [e]
    · intro b hb
      simp at hb; subst hb
      exact ⟨ownsMap_lt h1, Or.inl (by simp)⟩
end
end Go.Proofs.YtcdcipfojfnblaaGreatDoor.mpr
