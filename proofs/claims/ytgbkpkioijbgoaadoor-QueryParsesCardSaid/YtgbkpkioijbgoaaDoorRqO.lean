/- A question as the document's parser (lodestoneref33) takes it: how long its parts are, where its words lie. No condition. -/
import Derived.Test.YtgbkpkioijbgoaaDoorRq6
import Derived.Test.YtgbkpkioijbgoaaDoorRq7
import Derived.Test.YtgbkpkioijbgoaaDoorRq8
import Derived.Test.YtgbkpkioijbgoaaDoorRq9
import Derived.Test.YtgbkpkioijbgoaaDoorQry9
import Derived.Test.YtgbkpkioijbgoaaDoorLex12
namespace Go.Proofs.YtgbkpkioijbgoaaDoor.qry
open Go.RowKit
open lex (W wordsL)
open names (Nm mayN)
set_option linter.unusedVariables false
set_option linter.unusedSimpArgs false
theorem hpLast {w W : World} {X : List Nat} {r : Rs} {rs : List Rs} (h : Hp w X (r :: rs) W) : Hp w X (rs ++ [r]) W := h.perm (List.perm_append_comm (l₁ := [r]) (l₂ := rs))
/-- the words that a call handed back are held -/
theorem hpWords {w W1 W' : World} {X : List Nat} {rs : List Rs} {v : Value} {ws : List W} (h : Hp w X rs W1) (k : Below W1.heap.size W1 W') (hr : lex.WRow W' W1.heap.size v ws) : Hp w X (.row 71 4 v ws.length (lex.allcells ws) :: rs) W' := by
  refine h.new _ (fp' := v.ownBlock.toList) ⟨⟨hr.1, ?_⟩, rfl⟩ ?_ k ?_
  · rcases hr.2 with h1 | ⟨g, cap, cur, h1, h2, h3⟩
    · exact Or.inl h1
    · exact Or.inr ⟨g, cap, cur, h1, Nat.zero_le _, h3⟩
  · cases v.ownBlock <;> simp
  · intro b hb
    rcases hr.2 with ⟨rfl, h0⟩ | ⟨g, cap, cur, rfl, h2, h3, h4⟩
    · simp [Value.ownBlock] at hb
    · simp [Value.ownBlock] at hb
      subst hb
      exact ⟨block_lt h3, h2⟩
theorem wsAt_row {w W1 : World} {X : List Nat} {rs : List Rs} {i : Nat} {ws : List W} {b cap n : Nat} {AW : List Value} (h : Hp w X rs W1) (hi : rs[i]? = some (.row 71 4 (.slice (some ⟨b, 0, none⟩) n cap) n AW)) (hA : AW = lex.allcells ws) (h0 : n ≠ 0) (hn : n ≤ 1001) : WsAt ws b W1 := by
  obtain ⟨b', o', he, hr⟩ := (slAt (h.sl hi (Nat.le_trans hn (by decide)))).resolve_left h0
  injection he with he
  injection he with h1 h2 h3
  subst h1 h2 hA
  refine ⟨hr.1, fun i x hx => ?_⟩
  obtain ⟨a0, a1, a2, a3⟩ := allcells_at4 ws i x hx
  have k0 := hr.2 _ _ a0
  have k1 := hr.2 _ _ a1
  have k2 := hr.2 _ _ a2
  have k3 := hr.2 _ _ a3
  rw [Nat.zero_add] at k0 k1 k2 k3
  exact ⟨k0, k1, k2, k3⟩
/-- an edge that begins takes a word -/
theorem redge_step {ws : List W} (h : Wf ws) {p : Rp} (hl : p.at_ < ws.length) (hg : (ris ws 4 [45] p || ris ws 4 [60, 45] p) = true) : p.at_ + 1 ≤ (redge ws p).1.at_ := by
  refine Nat.le_trans ?_ (redge_le ws p)
  cases h2 : ris ws 4 [60, 45] p with
  | true =>
    have h3 := ris_next h hl (by decide) h2
    show _ ≤ (rmust ws 4 [60, 45] p).at_
    unfold rmust
    rw [if_pos h2, h3.1]
    exact Nat.le_refl _
  | false =>
    rw [h2, Bool.or_false] at hg
    have h3 := ris_next h hl (by decide) hg
    show _ ≤ (rmust ws 4 [45] p).at_
    unfold rmust
    rw [if_pos hg, h3.1]
    exact Nat.le_refl _
theorem rcondsF_len (ws : List W) : ∀ (f : Nat) (p : Rp) (acc : List Cd), (rcondsF ws f p acc).2.length ≤ acc.length + f
  | 0, p, acc => Nat.le_refl _
  | f + 1, p, acc => by
    rw [rcondsF]
    split
    · exact Nat.le_trans (rcondsF_len ws f _ _) (by rw [List.length_append]; show acc.length + 1 + f ≤ _; omega)
    · rw [List.length_append]; show acc.length + 1 ≤ _; omega
theorem ritemsF_len (ws : List W) : ∀ (f : Nat) (p : Rp) (acc : List It), (ritemsF ws f p acc).2.length ≤ acc.length + f
  | 0, p, acc => Nat.le_refl _
  | f + 1, p, acc => by
    rw [ritemsF]
    split
    · exact Nat.le_trans (ritemsF_len ws f _ _) (by rw [List.length_append]; show acc.length + 1 + f ≤ _; omega)
    · rw [List.length_append]; show acc.length + 1 ≤ _; omega
theorem redgesF_len (ws : List W) : ∀ (f : Nat) (p : Rp) (ns : List Nd) (es : List Ed), (redgesF ws f p ns es).2.1.length ≤ ns.length + f ∧ (redgesF ws f p ns es).2.2.length ≤ es.length + f
  | 0, p, ns, es => ⟨Nat.le_refl _, Nat.le_refl _⟩
  | f + 1, p, ns, es => by
    rw [redgesF]
    split
    · have h := redgesF_len ws f (rnode ws (redge ws p).1).1 (ns ++ [(rnode ws (redge ws p).1).2]) (es ++ [(redge ws p).2])
      rw [List.length_append, List.length_append] at h
      exact ⟨Nat.le_trans h.1 (by show ns.length + 1 + f ≤ _; omega), Nat.le_trans h.2 (by show es.length + 1 + f ≤ _; omega)⟩
    · exact ⟨Nat.le_add_right _ _, Nat.le_add_right _ _⟩
theorem redgesF_lt {ws : List W} : ∀ (f : Nat) (p : Rp) (ns : List Nd) (es : List Ed), p.at_ < ws.length → (redgesF ws f p ns es).1.at_ < ws.length
  | 0, p, ns, es, h => h
  | f + 1, p, ns, es, h => by
    rw [redgesF]
    split
    · exact redgesF_lt f _ _ _ (rnode_lt (redge_lt h))
    · exact h
theorem rcondsF_lt {ws : List W} : ∀ (f : Nat) (p : Rp) (acc : List Cd), p.at_ < ws.length → (rcondsF ws f p acc).1.at_ < ws.length
  | 0, p, acc, h => h
  | f + 1, p, acc, h => by
    rw [rcondsF]
    split
    · exact rcondsF_lt f _ _ (rcond_lt (rnext_lt h))
    · exact rcond_lt (rnext_lt h)
theorem ritemsF_lt {ws : List W} : ∀ (f : Nat) (p : Rp) (acc : List It), p.at_ < ws.length → (ritemsF ws f p acc).1.at_ < ws.length
  | 0, p, acc, h => h
  | f + 1, p, acc, h => by
    rw [ritemsF]
    split
    · exact ritemsF_lt f _ _ (ritem_lt h)
    · exact ritem_lt h
theorem rquest_len (ws : List W) (h : ws.length ≤ 1001) : (rquest ws).2.nodes.length ≤ 1100 ∧ (rquest ws).2.edges.length ≤ 1100 ∧ (rquest ws).2.conds.length ≤ 1100 ∧ (rquest ws).2.items.length ≤ 1100 := by
  have hc : ∀ p, (rconds ws p).2.length ≤ 1100 := fun p => by
    unfold rconds
    split
    · exact Nat.le_trans (rcondsF_len ws (ws.length + 1) _ _) (by show 0 + _ ≤ _; omega)
    · exact Nat.zero_le 1100
  have hi : ∀ p, (ritems ws p).2.length ≤ 1100 := fun p => by
    unfold ritems
    split
    · exact Nat.le_trans (ritemsF_len ws (ws.length + 1) _ _) (by show 0 + _ ≤ _; omega)
    · exact Nat.zero_le 1100
  unfold rquest
  simp only
  refine ⟨?_, ?_, hc _, hi _⟩
  · exact Nat.le_trans (redgesF_len ws (ws.length + 1) _ _ _).1 (by show 1 + _ ≤ _; omega)
  · exact Nat.le_trans (redgesF_len ws (ws.length + 1) _ _ _).2 (by show 0 + _ ≤ _; omega)
theorem rconds_lt {ws : List W} {p : Rp} (h : p.at_ < ws.length) : (rconds ws p).1.at_ < ws.length := by
  unfold rconds; split
  · exact rcondsF_lt _ _ _ h
  · exact h
theorem rhere_lt {ws : List W} {p : Rp} (h : p.at_ < ws.length) : (rhere ws p).at_ < ws.length := by rw [rhere_at]; exact h
theorem rtell_lt {ws : List W} {p : Rp} (h : p.at_ < ws.length) : (rtell ws p).at_ < ws.length := by
  unfold rtell; split
  · exact h
  · exact rhere_lt h
theorem ritems_lt {ws : List W} {p : Rp} (h : p.at_ < ws.length) : (ritems ws p).1.at_ < ws.length := by
  unfold ritems; split
  · exact ritemsF_lt _ _ _ h
  · exact h
theorem rlimW_lt {ws : List W} {p : Rp} (h : p.at_ < ws.length) : (rlimW ws p).at_ < ws.length := by
  unfold rlimW; split
  · exact rhere_lt h
  · exact h
theorem rlim_lt {ws : List W} {p : Rp} (h : p.at_ < ws.length) : (rlim ws p).1.at_ < ws.length := by
  unfold rlim; split
  · exact rnext_lt (rlimW_lt (rnext_lt h))
  · exact h
theorem rend_lt {ws : List W} {p : Rp} (h : p.at_ < ws.length) : (rend ws p).at_ < ws.length := by
  unfold rend; split
  · exact h
  · exact rhere_lt h
/-- where 'tell' is, is another word behind it -/
theorem rtell_next {ws : List W} (h : Wf ws) {p : Rp} (hl : p.at_ < ws.length) (hb : (rtell ws p).bad < 0) : (rnext ws (rtell ws p)).at_ = (rtell ws p).at_ + 1 := by
  unfold rtell at hb ⊢
  split
  · rename_i hi
    exact (ris_next h hl (by decide) hi).1
  · rename_i hi
    rw [if_neg hi] at hb
    exfalso
    unfold rhere rwrong at hb
    split at hb
    · have : (0 : Int) ≤ ((rnow ws p).pos : Int) := Int.natCast_nonneg _
      simp only at hb
      omega
    · omega
theorem field_num (W : World) (a : Int) (s : ByteArray) (c d : Int) : (Instr.field 71 (.agg #[.int .i64 a, .string s, .int .i64 c, .int .i64 d]) 2).run Tryd.prog W = .ok (.int .i64 c) W := by kernel_rfl
/-- the document's question of a text; where it is wrong, and the error -/
def rparseL (l : List UInt8) : Qn ⊕ (Int × Nat) := if 1000 < l.length then .inr (0, 4) else match wordsL l with
  | (some ws, _) => if (rquest ws).1.bad < 0 then (if mayQ (rquest ws).2 then .inl (rquest ws).2 else .inr ((l.length : Int), 330)) else .inr ((rquest ws).1.bad, 330)
  | (none, p) => .inr ((p : Int), 320)
def RPRet (w : World) (r : Qn ⊕ (Int × Nat)) (e : Ending) (w' : World) : Prop := match r with
  | .inl q => ∃ v, e = .returned (.tuple #[v, .int .i64 0, .int .i64 0]) ∧ QRet w q v w'
  | .inr (p, n) => e = .returned (.tuple #[zeroQ, .int .i64 p, .int .i64 (n : Int)]) ∧ Below w.heap.size w w'
end Go.Proofs.YtgbkpkioijbgoaaDoor.qry
