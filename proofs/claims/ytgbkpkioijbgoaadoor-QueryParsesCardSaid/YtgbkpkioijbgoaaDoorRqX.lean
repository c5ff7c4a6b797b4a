/- The two parsers of questions, the program's and the document's, say the same of any words. No condition. The two parsers of questions say the same of any words: step by step. No condition but how the words end. The two parsers of questions say the same of any words: nodes, edges, conditions, what is told, a whole question. No condition but how the words end. The question that a text says is the document's, or both are wrong at one place. No condition. -/
import Derived.Test.YtgbkpkioijbgoaaDoorRqO
import Derived.Test.YtgbkpkioijbgoaaDoorQryW
section
namespace Go.Proofs.YtgbkpkioijbgoaaDoor.qry
open lex (W wordsL)
open names (Nm mayN)
set_option linter.unusedVariables false
set_option linter.unusedSimpArgs false

/-- the two are at one place, or both are wrong at one -/
def Sim (ws : List W) (st : St) (p : Rp) : Prop := st.at_ < ws.length ∧ ((st.bad = false ∧ p = ⟨st.at_, -1⟩) ∨ (st.bad = true ∧ p.bad = ((wd ws st.at_).pos : Int)))
theorem Sim.good {ws : List W} {st : St} {p : Rp} (h : Sim ws st p) (hb : st.bad = false) : p = ⟨st.at_, -1⟩ := by
  rcases h.2 with h1 | h1
  · exact h1.2
  · rw [hb] at h1; cases h1.1
theorem Sim.wrong {ws : List W} {st : St} {p : Rp} (h : Sim ws st p) (hb : st.bad = true) : p.bad = ((wd ws st.at_).pos : Int) := by
  rcases h.2 with h1 | h1
  · rw [hb] at h1; cases h1.1
  · exact h1.2
/-- wrong, it stays where it is -/
theorem is_off (ws : List W) (k : Nat) (s : Nm) {st : St} (h : st.bad = true) : isM ws k s st = false := by unfold isM; rw [h]; rfl
theorem must_off (c : Bool) {st : St} (h : st.bad = true) : mustM c st = st := by
  unfold mustM
  cases c
  · obtain ⟨a, b⟩ := st; simp only at h; subst h; rfl
  · rfl
theorem need_off (ws : List W) (k : Nat) (s : Nm) {st : St} (h : st.bad = true) : needM ws k s st = st := by
  unfold needM nextM
  rw [is_off ws k s h]
  exact must_off false h
theorem may_off (ws : List W) {st : St} (h : st.bad = true) : mayM ws st = ([], st) := by
  unfold mayM canB; rw [h]; rfl
theorem name_off (ws : List W) {st : St} (h : st.bad = true) : nameM ws st = ([], st) := by
  unfold nameM; rw [may_off ws h]; exact congrArg _ (must_off _ h)
theorem typed_off (ws : List W) {st : St} (h : st.bad = true) : typedM ws st = ([], [], st) := by
  unfold typedM; simp only [may_off ws h, is_off ws 4 [58] h]; rfl
theorem num_off (ws : List W) (m : Nat) {st : St} (h : st.bad = true) : numM ws m st = (0, st) := by
  unfold numM
  rw [must_off _ h, if_pos h]
theorem val_off (ws : List W) {st : St} (h : st.bad = true) : (valM ws st).2 = st := by
  unfold valM
  rw [is_off ws 1 _ h, is_off ws 1 _ h, is_off ws 1 _ h, is_off ws 4 _ h, num_off ws _ h, h]
  simp
theorem prop_off (ws : List W) {st : St} (h : st.bad = true) : (propM ws st).2 = st := by
  unfold propM
  simp only [name_off ws h, need_off ws 4 [58] h, val_off ws h]
theorem edgeR_off (ws : List W) (o : Bool) {st : St} (h : st.bad = true) : (edgeR ws o st).2 = st := by
  unfold edgeR
  simp only [need_off ws 4 [91] h, typed_off ws h, need_off ws 4 [93] h]
  exact need_off ws 4 _ h
theorem node_off (ws : List W) {st : St} (h : st.bad = true) : (nodeM ws st).2 = st := by
  unfold nodeM
  simp only [need_off ws 4 [40] h, typed_off ws h, is_off ws 4 [123] h]
  exact need_off ws 4 [41] h
theorem op_off (ws : List W) {st : St} (h : st.bad = true) : (opM ws st).2 = st := by
  unfold opM opsL
  simp only [opF, is_off ws 4 _ h]
  exact must_off false h
theorem cond_off (ws : List W) {st : St} (h : st.bad = true) : (condM ws st).2 = st := by
  unfold condM
  simp only [name_off ws h, need_off ws 4 [46] h, op_off ws h, val_off ws h]
theorem item_off (ws : List W) {st : St} (h : st.bad = true) : (itemM ws st).2 = st := by
  unfold itemM
  simp only [name_off ws h, is_off ws 4 [46] h]
  rfl
/-- what is not wrong behind, was not ahead -/
theorem back {f : St → St} (h : ∀ {st : St}, st.bad = true → f st = st) {st : St} (hb : (f st).bad = false) : st.bad = false := by
  cases hs : st.bad
  · rfl
  · rw [h hs, hs] at hb; cases hb
/-- wrong once, the document's parser stays so -/
theorem rnext_bad (ws : List W) (p : Rp) : (rnext ws p).bad = p.bad := by unfold rnext; split <;> rfl
theorem rwrong_bad (p : Rp) (i : Int) (h : 0 ≤ p.bad) : (rwrong p i).bad = p.bad := by
  unfold rwrong; rw [if_neg (by omega)]
theorem ris_off (ws : List W) (k : Nat) (s : Nm) {p : Rp} (h : 0 ≤ p.bad) : ris ws k s p = false := by
  unfold ris; rw [decide_eq_false (by omega)]; rfl
theorem rmust_off (ws : List W) (k : Nat) (s : Nm) {p : Rp} (h : 0 ≤ p.bad) : (rmust ws k s p).bad = p.bad := by
  unfold rmust; rw [ris_off ws k s h]; exact rwrong_bad p _ h
theorem rname_off (ws : List W) (m : Bool) {p : Rp} (h : 0 ≤ p.bad) : (rname ws m p).1.bad = p.bad := by
  unfold rname
  split
  · exact rnext_bad ws p
  · split
    · exact rwrong_bad p _ h
    · rfl
theorem rval_off (ws : List W) {p : Rp} (h : 0 ≤ p.bad) : (rval ws p).1.bad = p.bad := by
  unfold rval
  rw [ris_off ws 4 [45] h]
  simp only [Bool.false_eq_true, if_false, and_false]
  have h1 : (rnext ws p).bad = p.bad := rnext_bad ws p
  have h2 : ∀ i, (rwrong (rnext ws p) i).bad = p.bad := fun i => by rw [rwrong_bad _ i (by rw [h1]; exact h), h1]
  repeat' split
  all_goals first | exact h1 | exact h2 _
theorem rlab_off (ws : List W) {p : Rp} (h : 0 ≤ p.bad) : (rlab ws p).1 = p := by unfold rlab; rw [ris_off ws 4 [58] h]; rfl
theorem rprops_off (ws : List W) {p : Rp} (h : 0 ≤ p.bad) : (rprops ws p).1 = p := by unfold rprops; rw [ris_off ws 4 [123] h]; rfl
theorem rnode_off (ws : List W) {p : Rp} (h : 0 ≤ p.bad) : (rnode ws p).1.bad = p.bad := by
  have h1 := rmust_off ws 4 [40] h
  have h2 := rname_off ws false (p := rmust ws 4 [40] p) (by rw [h1]; exact h)
  unfold rnode
  simp only
  rw [h1] at h2
  have h3 : 0 ≤ (rname ws false (rmust ws 4 [40] p)).1.bad := by rw [h2]; exact h
  rw [rlab_off ws h3, rprops_off ws h3, rmust_off ws 4 [41] h3, h2]
theorem redge_off (ws : List W) {p : Rp} (h : 0 ≤ p.bad) : (redge ws p).1.bad = p.bad := by
  unfold redge
  simp only
  have h1 := rmust_off ws 4 (if (!ris ws 4 [60, 45] p) = true then [45] else [60, 45]) h
  generalize rmust ws 4 (if (!ris ws 4 [60, 45] p) = true then [45] else [60, 45]) p = a at h1 ⊢
  have h2 := rmust_off ws 4 [91] (p := a) (by omega)
  generalize rmust ws 4 [91] a = b at h2 ⊢
  have h3 := rname_off ws false (p := b) (by omega)
  have h4 : 0 ≤ (rname ws false b).1.bad := by omega
  rw [rlab_off ws h4]
  have h5 := rmust_off ws 4 [93] h4
  rw [rmust_off ws 4 _ (by omega)]
  omega
theorem rcond_off (ws : List W) {p : Rp} (h : 0 ≤ p.bad) : (rcond ws p).1.bad = p.bad := by
  unfold rcond
  simp only
  have h1 := rname_off ws true h
  have h2 := rmust_off ws 4 [46] (p := (rname ws true p).1) (by omega)
  have h3 := rname_off ws true (p := rmust ws 4 [46] (rname ws true p).1) (by omega)
  split
  · show (rval ws (rnext ws _)).1.bad = _
    rw [rval_off ws (by rw [rnext_bad]; omega), rnext_bad]; omega
  · show (rwrong _ _).bad = _
    rw [rwrong_bad _ _ (by omega)]; omega
theorem ritem_off (ws : List W) {p : Rp} (h : 0 ≤ p.bad) : (ritem ws p).1.bad = p.bad := by
  unfold ritem
  simp only
  have h1 := rname_off ws true (p := rnext ws p) (by rw [rnext_bad]; exact h)
  rw [rnext_bad] at h1
  rw [ris_off ws 4 [46] (by omega)]
  exact h1
end Go.Proofs.YtgbkpkioijbgoaaDoor.qry
end
section
namespace Go.Proofs.YtgbkpkioijbgoaaDoor.qry
open lex (W wordsL)
open names (Nm mayN)
set_option linter.unusedVariables false
set_option linter.unusedSimpArgs false

theorem Sim.nonneg {ws : List W} {st : St} {p : Rp} (h : Sim ws st p) (hb : st.bad = true) : 0 ≤ p.bad := by
  rw [h.wrong hb]; exact Int.natCast_nonneg _
theorem Sim.stay {ws : List W} {st : St} {p p' : Rp} (h : Sim ws st p) (hb : st.bad = true) (hp : p'.bad = p.bad) : Sim ws st p' := ⟨h.1, Or.inr ⟨hb, hp.trans (h.wrong hb)⟩⟩
theorem Sim.now {ws : List W} {st : St} {p : Rp} (h : Sim ws st p) (hb : st.bad = false) : rnow ws p = wd ws st.at_ := by
  rw [h.good hb]; exact rnow_eq h.1
theorem ris_sim {ws : List W} {st : St} {p : Rp} (h : Sim ws st p) (k : Nat) (s : Nm) : ris ws k s p = isM ws k s st := by
  cases hb : st.bad with
  | true => rw [is_off ws k s hb, ris_off ws k s (h.nonneg hb)]
  | false =>
    have hn := h.now hb
    unfold ris isM
    rw [hn, hb, h.good hb]
    rfl
theorem next_sim {ws : List W} (hw : Wf ws) {st : St} {p : Rp} (h : Sim ws st p) (hb : st.bad = false) (hk : (wd ws st.at_).kind ≠ 0) : Sim ws st.adv (rnext ws p) := by
  have hl := h.1
  have hn : st.at_ + 1 < ws.length := by
    rcases Nat.lt_or_ge (st.at_ + 1) ws.length with h4 | h4
    · exact h4
    · exfalso
      have hat : ws[st.at_]? = some (wd ws st.at_) := by unfold wd; rw [List.getD_eq_getElem?_getD, List.getElem?_eq_getElem hl]; rfl
      exact hk (hw.last _ _ hat (by omega))
  rw [h.good hb]
  unfold rnext
  rw [if_pos hn]
  exact ⟨hn, Or.inl ⟨hb, rfl⟩⟩
theorem is_kind {ws : List W} {k : Nat} {s : Nm} {st : St} (h : isM ws k s st = true) : (wd ws st.at_).kind = k := by
  unfold isM at h
  simp only [Bool.and_eq_true, decide_eq_true_eq] at h
  exact h.2.1
theorem wrong_sim {ws : List W} {st : St} {p : Rp} (h : Sim ws st p) : Sim ws ⟨st.at_, true⟩ (rwrong p ((rnow ws p).pos : Int)) := by
  cases hb : st.bad with
  | true =>
    refine ⟨h.1, Or.inr ⟨rfl, ?_⟩⟩
    rw [rwrong_bad p _ (h.nonneg hb)]; exact h.wrong hb
  | false =>
    refine ⟨h.1, Or.inr ⟨rfl, ?_⟩⟩
    rw [h.now hb, h.good hb]
    rfl
theorem need_sim {ws : List W} (hw : Wf ws) {st : St} {p : Rp} (h : Sim ws st p) {k : Nat} (s : Nm) (hk : k ≠ 0) : Sim ws (needM ws k s st) (rmust ws k s p) := by
  have hr := ris_sim h k s
  unfold needM nextM rmust
  rw [hr]
  cases hi : isM ws k s st with
  | true => exact next_sim hw h (is_good hi) (by rw [is_kind hi]; exact hk)
  | false => exact wrong_sim h
theorem can_sim {ws : List W} {st : St} {p : Rp} (h : Sim ws st p) (hb : st.bad = false) : rcan ws p = canB ws st := by
  unfold rcan canB
  rw [h.now hb, hb]
  rfl
theorem can_some {ws : List W} {st : St} (h : canB ws st = true) : (wd ws st.at_).s ≠ [] ∧ (wd ws st.at_).kind = 1 := by
  unfold canB at h
  simp only [Bool.and_eq_true, decide_eq_true_eq] at h
  refine ⟨fun e => ?_, h.2.1⟩
  have h2 := h.2.2.2
  rw [e, names.mayN_len_no (Or.inl (by decide))] at h2
  cases h2
/-- a name that may be there -/
theorem may_sim {ws : List W} (hw : Wf ws) {st : St} {p : Rp} (h : Sim ws st p) : Sim ws (mayM ws st).2 (rname ws false p).1 ∧ (st.bad = false → (mayM ws st).1 = (rname ws false p).2) := by
  cases hb : st.bad with
  | true =>
    rw [may_off ws hb]
    exact ⟨h.stay hb (rname_off ws false (h.nonneg hb)), fun h => by cases h⟩
  | false =>
    have hc := can_sim h hb
    have hn := h.now hb
    unfold mayM rname
    rw [hc]
    cases hi : canB ws st with
    | true =>
      rw [if_pos rfl, if_pos rfl]
      exact ⟨next_sim hw h hb (by rw [(can_some hi).2]; decide), fun _ => by rw [hn]⟩
    | false => exact ⟨h, fun _ => rfl⟩
theorem name_sim {ws : List W} (hw : Wf ws) {st : St} {p : Rp} (h : Sim ws st p) : Sim ws (nameM ws st).2 (rname ws true p).1 ∧ ((nameM ws st).2.bad = false → (nameM ws st).1 = (rname ws true p).2) := by
  cases hb : st.bad with
  | true =>
    rw [name_off ws hb]
    exact ⟨h.stay hb (rname_off ws true (h.nonneg hb)), fun h => by rw [hb] at h; cases h⟩
  | false =>
    have hc := can_sim h hb
    have hn := h.now hb
    unfold nameM mayM rname
    rw [hc]
    cases hi : canB ws st with
    | true =>
      simp only [if_true]
      rw [decide_eq_true (can_some hi).1]
      exact ⟨next_sim hw h hb (by rw [(can_some hi).2]; decide), fun _ => by rw [hn]⟩
    | false => exact ⟨wrong_sim h, fun h => by cases h⟩
theorem typed_sim {ws : List W} (hw : Wf ws) {st : St} {p : Rp} (h : Sim ws st p) : Sim ws (typedM ws st).2.2 (rlab ws (rname ws false p).1).1 ∧ ((typedM ws st).2.2.bad = false → (typedM ws st).1 = (rname ws false p).2 ∧ (typedM ws st).2.1 = (rlab ws (rname ws false p).1).2) := by
  obtain ⟨h1, h2⟩ := may_sim hw h
  have hr := ris_sim h1 4 [58]
  have hmb : (mayM ws st).2.bad = false → st.bad = false := fun h => back (f := fun s => (mayM ws s).2) (fun h => by simp only [may_off ws h]) h
  unfold typedM rlab
  rw [hr]
  simp only
  cases hi : isM ws 4 [58] (mayM ws st).2 with
  | true =>
    simp only [if_true]
    have hg := is_good hi
    obtain ⟨h3, h4⟩ := name_sim hw (next_sim hw h1 hg (by rw [is_kind hi]; decide))
    exact ⟨h3, fun hb => ⟨h2 (hmb hg), h4 hb⟩⟩
  | false => exact ⟨h1, fun hb => ⟨h2 (hmb hb), rfl⟩⟩
theorem num_ok {ws : List W} (hw : Wf ws) {i : Nat} (h : i < ws.length) : (wd ws i).n ≤ top63 := by
  have hat : ws[i]? = some (wd ws i) := by unfold wd; rw [List.getD_eq_getElem?_getD, List.getElem?_eq_getElem h]; rfl
  exact hw.num _ (List.mem_of_getElem? hat)
theorem isM_good {ws : List W} {k : Nat} {s : Nm} {st : St} (hb : st.bad = false) : isM ws k s st = (decide ((wd ws st.at_).kind = k) && decide ((wd ws st.at_).s = s)) := by unfold isM; rw [hb]; rfl
/-- what was no value: wrong at its word, wherever the document's parser goes on -/
theorem wrong_next {ws : List W} {st : St} {p q : Rp} (h : Sim ws st p) (hb : st.bad = false) (hq : q.bad = p.bad) : Sim ws ⟨st.at_, true⟩ (rwrong q ((rnow ws p).pos : Int)) := by
  refine ⟨h.1, Or.inr ⟨rfl, ?_⟩⟩
  rw [h.now hb]
  have : q.bad = -1 := by rw [hq, h.good hb]
  unfold rwrong
  rw [this]
  rfl
theorem val_sim {ws : List W} (hw : Wf ws) {st : St} {p : Rp} (h : Sim ws st p) : Sim ws (valM ws st).2 (rval ws p).1 ∧ ((valM ws st).2.bad = false → (valM ws st).1 = (rval ws p).2) := by
  cases hb : st.bad with
  | true =>
    rw [val_off ws hb]
    exact ⟨h.stay hb (rval_off ws (h.nonneg hb)), fun h => by rw [hb] at h; cases h⟩
  | false =>
    have hr := ris_sim h 4 [45]
    by_cases hm : (wd ws st.at_).kind = 4 ∧ (wd ws st.at_).s = [45]
    · have hi : isM ws 4 [45] st = true := by rw [isM_good hb, decide_eq_true hm.1, decide_eq_true hm.2]; rfl
      have e1 : ∀ s, isM ws 1 s st = false := fun s => by rw [isM_good hb, decide_eq_false (by omega)]; rfl
      have h1 := next_sim hw h hb (by rw [hm.1]; decide)
      have hb1 : st.adv.bad = false := hb
      have hn1 := h1.now hb1
      unfold valM rval
      rw [hr, hi, e1, e1, e1]
      simp only [Bool.false_eq_true, if_false, if_true, and_true]
      unfold numM numB
      by_cases hk : (wd ws st.adv.at_).kind = 2
      · rw [decide_eq_true hk, decide_eq_true (num_ok hw h1.1), hn1, if_pos hk]
        have h2 := next_sim hw h1 hb1 (by rw [hk]; decide)
        have hmu : (mustM (true && true) st.adv).bad = false := hb1
        rw [hmu]
        exact ⟨h2, fun _ => rfl⟩
      · rw [decide_eq_false hk, hn1, if_neg hk, if_neg hk]
        have h2 := wrong_next h1 hb1 (rnext_bad ws (rnext ws p))
        rw [hn1] at h2
        exact ⟨h2, fun h => by cases h⟩
    · have hi : isM ws 4 [45] st = false := by
        rw [isM_good hb, Bool.eq_false_iff]
        intro hc
        simp only [Bool.and_eq_true, decide_eq_true_eq] at hc
        exact hm hc
      have hn := h.now hb
      unfold valM rval
      rw [hr, hi, isM_good hb, isM_good hb, isM_good hb, hb]
      simp only [Bool.false_eq_true, if_false, and_false, hn, Bool.not_false, Bool.and_true]
      by_cases h2 : (wd ws st.at_).kind = 2
      · have h3 := next_sim hw h hb (by rw [h2]; decide)
        rw [h2]
        simp only [Nat.reduceEqDiff, decide_false, Bool.false_and, Bool.false_eq_true, if_false, if_true]
        unfold numM numB
        rw [decide_eq_true h2, decide_eq_true (num_ok hw h.1)]
        have hmu : (mustM (true && true) st).bad = false := hb
        rw [hmu]
        exact ⟨h3, fun _ => rfl⟩
      · by_cases h4 : (wd ws st.at_).kind = 3
        · have h3 := next_sim hw h hb (by rw [h4]; decide)
          rw [h4]
          simp only [Nat.reduceEqDiff, decide_false, decide_true, Bool.false_and, Bool.false_eq_true, if_false, if_true]
          exact ⟨h3, fun _ => by trivial⟩
        · have hno : (numM ws top63 st).2 = ⟨st.at_, true⟩ := by
            unfold numM numB
            rw [decide_eq_false h2]
            rfl
          rw [if_neg h2, if_neg h4, decide_eq_false h4]
          by_cases h1 : (wd ws st.at_).kind = 1
          · have h3 := next_sim hw h hb (by rw [h1]; decide)
            rw [h1]
            simp only [decide_true, Bool.true_and, true_and, decide_eq_true_eq]
            by_cases s1 : (wd ws st.at_).s = [116, 114, 117, 101]
            · rw [s1]
              exact ⟨h3, fun _ => rfl⟩
            · by_cases s2 : (wd ws st.at_).s = [102, 97, 108, 115, 101]
              · rw [s2]
                exact ⟨h3, fun _ => rfl⟩
              · by_cases s3 : (wd ws st.at_).s = [110, 111, 116, 104, 105, 110, 103]
                · rw [s3]
                  exact ⟨h3, fun _ => rfl⟩
                · rw [if_neg s3, if_neg s2, if_neg s1, if_neg s1, if_neg s2, if_neg s3]
                  have hw2 := wrong_next h hb (rnext_bad ws p)
                  rw [hn] at hw2
                  simp only [Bool.false_eq_true, if_false]
                  rw [hno]
                  exact ⟨hw2, fun h => by cases h⟩
          · rw [decide_eq_false h1]
            have hw2 := wrong_next h hb (rnext_bad ws p)
            rw [hn] at hw2
            simp only [Bool.false_and, Bool.false_eq_true, if_false, h1, false_and]
            rw [hno]
            exact ⟨hw2, fun h => by cases h⟩
end Go.Proofs.YtgbkpkioijbgoaaDoor.qry
end
section
namespace Go.Proofs.YtgbkpkioijbgoaaDoor.qry
open lex (W wordsL)
open names (Nm mayN)
set_option linter.unusedVariables false
set_option linter.unusedSimpArgs false

theorem prop_sim {ws : List W} (hw : Wf ws) {st : St} {p : Rp} (h : Sim ws st (rnext ws p)) : Sim ws (propM ws st).2 (rprop ws p).1 ∧ ((propM ws st).2.bad = false → (propM ws st).1 = (rprop ws p).2) := by
  obtain ⟨h1, v1⟩ := name_sim hw h
  have h2 := need_sim hw h1 (k := 4) [58] (by decide)
  obtain ⟨h3, v3⟩ := val_sim hw h2
  refine ⟨h3, fun hb => ?_⟩
  have b2 : (needM ws 4 [58] (nameM ws st).2).bad = false := back (f := fun s => (valM ws s).2) (fun h => val_off ws h) hb
  have b1 : (nameM ws st).2.bad = false := back (f := needM ws 4 [58]) (fun h => need_off ws 4 [58] h) b2
  show (⟨_, _⟩ : Pp) = ⟨_, _⟩
  rw [v1 b1, v3 hb]
theorem propsF_sim {ws : List W} (hw : Wf ws) : ∀ (f : Nat) (st : St) (p : Rp) (acc acc' : List Pp), Sim ws st (rnext ws p) → ws.length ≤ st.at_ + f → (st.bad = false → acc = acc') →
    Sim ws (propsF ws f st acc).2 (rpropsF ws f p acc').1 ∧ ((propsF ws f st acc).2.bad = false → (propsF ws f st acc).1 = (rpropsF ws f p acc').2)
  | 0, st, p, acc, acc', h, hf, _ => by have := h.1; omega
  | f + 1, st, p, acc, acc', h, hf, ha => by
    obtain ⟨h1, v1⟩ := prop_sim hw h
    have hr := ris_sim h1 4 [44]
    rw [propsF, rpropsF, hr]
    have b0 : (propM ws st).2.bad = false → st.bad = false := fun hb => back (f := fun s => (propM ws s).2) (fun h => prop_off ws h) hb
    cases hi : isM ws 4 [44] (propM ws st).2 with
    | true =>
      rw [if_pos rfl, if_pos rfl]
      have hg := is_good hi
      refine propsF_sim hw f _ _ _ _ (next_sim hw h1 hg (by rw [is_kind hi]; decide)) ?_ (fun _ => by rw [ha (b0 hg), v1 hg])
      have := le_prop ws st
      show ws.length ≤ (propM ws st).2.at_ + 1 + f
      omega
    | false =>
      rw [if_neg (by decide), if_neg (by decide)]
      exact ⟨h1, fun hb => by rw [ha (b0 hb), v1 hb]⟩
theorem props_sim {ws : List W} (hw : Wf ws) {st : St} {p : Rp} (h : Sim ws st p) :
    Sim ws (if isM ws 4 [123] st then propsM ws st.adv else ([], st)).2 (rprops ws p).1 ∧ ((if isM ws 4 [123] st then propsM ws st.adv else ([], st)).2.bad = false → (if isM ws 4 [123] st then propsM ws st.adv else ([], st)).1 = (rprops ws p).2 ∧ st.bad = false) := by
  have hr := ris_sim h 4 [123]
  unfold rprops
  rw [hr]
  cases hi : isM ws 4 [123] st with
  | true =>
    have hg := is_good hi
    have hn := next_sim hw h hg (by rw [is_kind hi]; decide)
    obtain ⟨h1, v1⟩ := propsF_sim hw (ws.length + 1) st.adv p [] [] hn (by omega) (fun _ => rfl)
    simp only [if_true]
    have hga : st.adv.bad = false := hg
    unfold propsM
    rw [hga]
    simp only [Bool.false_eq_true, if_false]
    exact ⟨need_sim hw h1 [125] (by decide), fun hb => ⟨v1 (back (f := needM ws 4 [125]) (fun h => need_off ws 4 [125] h) hb), hg⟩⟩
  | false => exact ⟨h, fun hb => ⟨rfl, hb⟩⟩
theorem node_sim {ws : List W} (hw : Wf ws) {st : St} {p : Rp} (h : Sim ws st p) : Sim ws (nodeM ws st).2 (rnode ws p).1 ∧ ((nodeM ws st).2.bad = false → (nodeM ws st).1 = (rnode ws p).2) := by
  have h1 := need_sim hw h (k := 4) [40] (by decide)
  obtain ⟨h2, v2⟩ := typed_sim hw h1
  obtain ⟨h3, v3⟩ := props_sim hw h2
  unfold nodeM rnode
  simp only
  refine ⟨need_sim hw h3 [41] (by decide), fun hb => ?_⟩
  have b3 := back (f := needM ws 4 [41]) (fun h => need_off ws 4 [41] h) hb
  obtain ⟨e3, b2⟩ := v3 b3
  obtain ⟨e1, e2⟩ := v2 b2
  rw [e1, e2, e3]
theorem edgeR_sim {ws : List W} (hw : Wf ws) (o : Bool) {st : St} {p : Rp} (h : Sim ws st p) :
    Sim ws (edgeR ws o st).2 (rmust ws 4 (if o then [45, 62] else [45]) (rmust ws 4 [93] (rlab ws (rname ws false (rmust ws 4 [91] p)).1).1)) ∧ ((edgeR ws o st).2.bad = false → (edgeR ws o st).1 = ⟨(rname ws false (rmust ws 4 [91] p)).2, (rlab ws (rname ws false (rmust ws 4 [91] p)).1).2, o⟩) := by
  have h1 := need_sim hw h (k := 4) [91] (by decide)
  obtain ⟨h2, v2⟩ := typed_sim hw h1
  have h3 := need_sim hw h2 (k := 4) [93] (by decide)
  refine ⟨need_sim hw h3 _ (by decide), fun hb => ?_⟩
  have b3 := back (f := needM ws 4 (if o then [45, 62] else [45])) (fun h => need_off ws 4 _ h) hb
  have b2 := back (f := needM ws 4 [93]) (fun h => need_off ws 4 [93] h) b3
  obtain ⟨e1, e2⟩ := v2 b2
  show (⟨_, _, _⟩ : Ed) = ⟨_, _, _⟩
  rw [e1, e2]
theorem edge_sim {ws : List W} (hw : Wf ws) {st : St} {p : Rp} (h : Sim ws st p) (hi : (isM ws 4 [45] st || isM ws 4 [60, 45] st) = true) :
    (edgeM ws st).2.1 = true ∧ Sim ws (edgeM ws st).2.2 (redge ws p).1 ∧ ((edgeM ws st).2.2.bad = false → (edgeM ws st).1 = (redge ws p).2) := by
  have hr := ris_sim h 4 [60, 45]
  cases h1 : isM ws 4 [45] st with
  | true =>
    have hg := is_good h1
    have h2 : isM ws 4 [60, 45] st = false := by
      rw [isM_good hg] at h1 ⊢
      simp only [Bool.and_eq_true, decide_eq_true_eq] at h1
      rw [h1.2]
      simp
    have hm : rmust ws 4 [45] p = rnext ws p := by unfold rmust; rw [ris_sim h, h1]; rfl
    have hn := next_sim hw h hg (by rw [is_kind h1]; decide)
    obtain ⟨h3, v3⟩ := edgeR_sim hw true hn
    unfold edgeM redge
    rw [h1, hr, h2]
    simp only [if_true, Bool.not_false]
    rw [hm]
    exact ⟨trivial, h3, v3⟩
  | false =>
    rw [h1, Bool.false_or] at hi
    have hg := is_good hi
    have hm : rmust ws 4 [60, 45] p = rnext ws p := by unfold rmust; rw [ris_sim h, hi]; rfl
    have hn := next_sim hw h hg (by rw [is_kind hi]; decide)
    obtain ⟨h3, v3⟩ := edgeR_sim hw false hn
    unfold edgeM redge
    rw [h1, hr, hi]
    simp only [if_true, Bool.not_true, Bool.false_eq_true, if_false]
    rw [hm]
    exact ⟨trivial, h3, v3⟩
theorem redgesF_off (ws : List W) : ∀ (f : Nat) (p : Rp) (ns : List Nd) (es : List Ed), 0 ≤ p.bad → (redgesF ws f p ns es).1 = p
  | 0, p, ns, es, _ => rfl
  | f + 1, p, ns, es, h => by rw [redgesF, ris_off ws 4 [45] h, ris_off ws 4 [60, 45] h]; rfl
theorem edge_off (ws : List W) {st : St} (h : st.bad = true) : edgeM ws st = (⟨[], [], false⟩, false, st) := by
  unfold edgeM; rw [is_off ws 4 _ h, is_off ws 4 _ h]; rfl
theorem edgesF_sim {ws : List W} (hw : Wf ws) : ∀ (f : Nat) (st : St) (p : Rp) (ns ns' : List Nd) (es es' : List Ed), Sim ws st p → (st.bad = false → ns = ns' ∧ es = es') →
    Sim ws (edgesF ws f st ns es).2.2 (redgesF ws f p ns' es').1 ∧ ((edgesF ws f st ns es).2.2.bad = false → (edgesF ws f st ns es).1 = (redgesF ws f p ns' es').2.1 ∧ (edgesF ws f st ns es).2.1 = (redgesF ws f p ns' es').2.2)
  | 0, st, p, ns, ns', es, es', h, ha => ⟨h, ha⟩
  | f + 1, st, p, ns, ns', es, es', h, ha => by
    have r1 := ris_sim h 4 [45]
    have r2 := ris_sim h 4 [60, 45]
    rw [edgesF, redgesF, r1, r2]
    cases hi : (isM ws 4 [45] st || isM ws 4 [60, 45] st) with
    | true =>
      obtain ⟨e1, e2, e3⟩ := edge_sim hw h hi
      rw [if_pos rfl, e1, Bool.true_and]
      have hg : st.bad = false := by
        cases hb : st.bad
        · rfl
        · rw [is_off ws 4 _ hb, is_off ws 4 _ hb] at hi; cases hi
      cases hb : (edgeM ws st).2.2.bad with
      | true =>
        rw [if_neg (by decide)]
        refine ⟨e2.stay hb ?_, fun h => by rw [hb] at h; cases h⟩
        have h0 := e2.nonneg hb
        have h1 := rnode_off ws h0
        rw [redgesF_off ws f _ _ _ (by rw [h1]; exact h0), h1]
      | false =>
        rw [if_pos (by decide)]
        obtain ⟨n1, n2⟩ := node_sim hw e2
        obtain ⟨a1, a2⟩ := ha hg
        exact edgesF_sim hw f _ _ _ _ _ _ n1 (fun hb2 => by rw [a1, a2, n2 hb2, e3 hb]; exact ⟨rfl, rfl⟩)
    | false =>
      have he : edgeM ws st = (⟨[], [], false⟩, false, st) := by
        simp only [Bool.or_eq_false_iff] at hi
        unfold edgeM; rw [hi.1, hi.2]; rfl
      rw [he]
      exact ⟨h, ha⟩
theorem opF_sim {ws : List W} (hw : Wf ws) {st : St} {p : Rp} (h : Sim ws st p) (hb : st.bad = false) : ∀ (l : List Nm) (i : Nat), match ropF (rnow ws p) l i with
    | some k => opF ws st l i = (k, st.adv) ∧ (wd ws st.at_).kind = 4
    | none => opF ws st l i = (0, ⟨st.at_, true⟩)
  | [], i => rfl
  | s :: l, i => by
    have ih := opF_sim hw h hb l (i + 1)
    rw [ropF, opF, isM_good hb, h.now hb]
    by_cases hk : (wd ws st.at_).kind = 4 ∧ (wd ws st.at_).s = s
    · rw [if_pos hk, decide_eq_true hk.1, decide_eq_true hk.2]
      exact ⟨rfl, hk.1⟩
    · have hn : (decide ((wd ws st.at_).kind = 4) && decide ((wd ws st.at_).s = s)) = false := by
        rw [Bool.eq_false_iff]
        intro hc
        simp only [Bool.and_eq_true, decide_eq_true_eq] at hc
        exact hk hc
      rw [if_neg hk, hn, if_neg (by decide)]
      rw [h.now hb] at ih
      exact ih
theorem cond_sim {ws : List W} (hw : Wf ws) {st : St} {p : Rp} (h : Sim ws st p) : Sim ws (condM ws st).2 (rcond ws p).1 ∧ ((condM ws st).2.bad = false → (condM ws st).1 = (rcond ws p).2) := by
  obtain ⟨h1, v1⟩ := name_sim hw h
  have h2 := need_sim hw h1 (k := 4) [46] (by decide)
  obtain ⟨h3, v3⟩ := name_sim hw h2
  have c3 : ∀ s : St, (valM ws (opM ws s).2).2.bad = false → s.bad = false := fun s hb => back (f := fun s => (opM ws s).2) (fun h => op_off ws h) (back (f := fun s => (valM ws s).2) (fun h => val_off ws h) hb)
  have c1 : (nameM ws (needM ws 4 [46] (nameM ws st).2)).2.bad = false → (nameM ws st).2.bad = false := fun hb => back (f := needM ws 4 [46]) (fun h => need_off ws 4 [46] h) (back (f := fun s => (nameM ws s).2) (fun h => by simp only [name_off ws h]) hb)
  unfold condM rcond
  simp only
  generalize hA : nameM ws (needM ws 4 [46] (nameM ws st).2) = A at h3 v3 c1 ⊢
  generalize hB : rname ws true (rmust ws 4 [46] (rname ws true p).1) = B at h3 v3 ⊢
  cases hb : A.2.bad with
  | true =>
    have ho := op_off ws hb
    have hv : (valM ws (opM ws A.2).2).2 = A.2 := by rw [ho]; exact val_off ws hb
    rw [hv]
    refine ⟨h3.stay hb ?_, fun h => by rw [hb] at h; cases h⟩
    have h0 := h3.nonneg hb
    split
    · show (rval ws (rnext ws B.1)).1.bad = _
      rw [rval_off ws (by rw [rnext_bad]; exact h0), rnext_bad]
    · show (rwrong B.1 _).bad = _
      exact rwrong_bad _ _ h0
  | false =>
    have ho := opF_sim hw h3 hb opsL 0
    have hM : opM ws A.2 = opF ws A.2 opsL 0 := rfl
    rw [hM]
    cases hro : ropF (rnow ws B.1) opsL 0 with
    | none =>
      rw [hro] at ho
      simp only at ho ⊢
      rw [ho]
      have hv : (valM ws ⟨A.2.at_, true⟩).2 = ⟨A.2.at_, true⟩ := val_off ws rfl
      rw [hv]
      exact ⟨wrong_sim h3, fun h => by cases h⟩
    | some k =>
      rw [hro] at ho
      simp only at ho ⊢
      rw [ho.1]
      obtain ⟨h5, v5⟩ := val_sim hw (next_sim hw h3 hb (by rw [ho.2]; decide))
      exact ⟨h5, fun hb5 => by rw [v5 hb5, v3 hb, v1 (c1 hb)]⟩
theorem item_sim {ws : List W} (hw : Wf ws) {st : St} {p : Rp} (h : Sim ws st (rnext ws p)) : Sim ws (itemM ws st).2 (ritem ws p).1 ∧ ((itemM ws st).2.bad = false → (itemM ws st).1 = (ritem ws p).2) := by
  obtain ⟨h1, v1⟩ := name_sim hw h
  have hr := ris_sim h1 4 [46]
  unfold itemM ritem
  simp only
  rw [hr]
  cases hi : isM ws 4 [46] (nameM ws st).2 with
  | true =>
    have hg := is_good hi
    obtain ⟨h2, v2⟩ := name_sim hw (next_sim hw h1 hg (by rw [is_kind hi]; decide))
    simp only [if_true]
    exact ⟨h2, fun hb => by rw [v1 hg, v2 hb]⟩
  | false =>
    simp only [Bool.false_eq_true, if_false]
    exact ⟨h1, fun hb => by rw [v1 hb]⟩
theorem condsF_sim {ws : List W} (hw : Wf ws) : ∀ (f : Nat) (st : St) (p : Rp) (acc acc' : List Cd), Sim ws st (rnext ws p) → ws.length ≤ st.at_ + f → (st.bad = false → acc = acc') →
    Sim ws (condsF ws f st acc).2 (rcondsF ws f p acc').1 ∧ ((condsF ws f st acc).2.bad = false → (condsF ws f st acc).1 = (rcondsF ws f p acc').2)
  | 0, st, p, acc, acc', h, hf, _ => by have := h.1; omega
  | f + 1, st, p, acc, acc', h, hf, ha => by
    obtain ⟨h1, v1⟩ := cond_sim hw h
    have hr := ris_sim h1 1 [97, 110, 100]
    rw [condsF, rcondsF, hr]
    have b0 : (condM ws st).2.bad = false → st.bad = false := fun hb => back (f := fun s => (condM ws s).2) (fun h => cond_off ws h) hb
    cases hi : isM ws 1 [97, 110, 100] (condM ws st).2 with
    | true =>
      rw [if_pos rfl, if_pos rfl]
      have hg := is_good hi
      refine condsF_sim hw f _ _ _ _ (next_sim hw h1 hg (by rw [is_kind hi]; decide)) ?_ (fun _ => by rw [ha (b0 hg), v1 hg])
      have := le_cond ws st
      show ws.length ≤ (condM ws st).2.at_ + 1 + f
      omega
    | false =>
      rw [if_neg (by decide), if_neg (by decide)]
      exact ⟨h1, fun hb => by rw [ha (b0 hb), v1 hb]⟩
theorem itemsF_sim {ws : List W} (hw : Wf ws) : ∀ (f : Nat) (st : St) (p : Rp) (acc acc' : List It), Sim ws st (rnext ws p) → ws.length ≤ st.at_ + f → (st.bad = false → acc = acc') →
    Sim ws (itemsF ws f st acc).2 (ritemsF ws f p acc').1 ∧ ((itemsF ws f st acc).2.bad = false → (itemsF ws f st acc).1 = (ritemsF ws f p acc').2)
  | 0, st, p, acc, acc', h, hf, _ => by have := h.1; omega
  | f + 1, st, p, acc, acc', h, hf, ha => by
    obtain ⟨h1, v1⟩ := item_sim hw h
    have hr := ris_sim h1 4 [44]
    rw [itemsF, ritemsF, hr]
    have b0 : (itemM ws st).2.bad = false → st.bad = false := fun hb => back (f := fun s => (itemM ws s).2) (fun h => item_off ws h) hb
    cases hi : isM ws 4 [44] (itemM ws st).2 with
    | true =>
      rw [if_pos rfl, if_pos rfl]
      have hg := is_good hi
      refine itemsF_sim hw f _ _ _ _ (next_sim hw h1 hg (by rw [is_kind hi]; decide)) ?_ (fun _ => by rw [ha (b0 hg), v1 hg])
      have := le_item ws st
      show ws.length ≤ (itemM ws st).2.at_ + 1 + f
      omega
    | false =>
      rw [if_neg (by decide), if_neg (by decide)]
      exact ⟨h1, fun hb => by rw [ha (b0 hb), v1 hb]⟩
end Go.Proofs.YtgbkpkioijbgoaaDoor.qry
end
section
namespace Go.Proofs.YtgbkpkioijbgoaaDoor.qry
open lex (W wordsF wordsL wordAt wordAt_len)
open names (Nm mayN)
set_option linter.unusedVariables false
set_option linter.unusedSimpArgs false

theorem conds_sim {ws : List W} (hw : Wf ws) {st : St} {p : Rp} (h : Sim ws st p) :
    Sim ws (if isM ws 1 [119, 104, 101, 114, 101] st then condsF ws (ws.length + 1) st.adv [] else ([], st)).2 (rconds ws p).1 ∧ ((if isM ws 1 [119, 104, 101, 114, 101] st then condsF ws (ws.length + 1) st.adv [] else ([], st)).2.bad = false → (if isM ws 1 [119, 104, 101, 114, 101] st then condsF ws (ws.length + 1) st.adv [] else ([], st)).1 = (rconds ws p).2 ∧ st.bad = false) := by
  have hr := ris_sim h 1 [119, 104, 101, 114, 101]
  unfold rconds
  rw [hr]
  cases hi : isM ws 1 [119, 104, 101, 114, 101] st with
  | true =>
    have hg := is_good hi
    have hn := next_sim hw h hg (by rw [is_kind hi]; decide)
    obtain ⟨h1, v1⟩ := condsF_sim hw (ws.length + 1) st.adv p [] [] hn (by omega) (fun _ => rfl)
    simp only [if_true]
    exact ⟨h1, fun hb => ⟨v1 hb, hg⟩⟩
  | false => exact ⟨h, fun hb => ⟨rfl, hb⟩⟩
theorem tell_sim {ws : List W} (hw : Wf ws) {st : St} {p : Rp} (h : Sim ws st p) :
    Sim ws (if (needM ws 1 [116, 101, 108, 108] st).bad then (([] : List It), needM ws 1 [116, 101, 108, 108] st) else itemsF ws (ws.length + 1) (needM ws 1 [116, 101, 108, 108] st) []).2 (ritems ws (rtell ws p)).1 ∧
    ((if (needM ws 1 [116, 101, 108, 108] st).bad then (([] : List It), needM ws 1 [116, 101, 108, 108] st) else itemsF ws (ws.length + 1) (needM ws 1 [116, 101, 108, 108] st) []).2.bad = false → (if (needM ws 1 [116, 101, 108, 108] st).bad then (([] : List It), needM ws 1 [116, 101, 108, 108] st) else itemsF ws (ws.length + 1) (needM ws 1 [116, 101, 108, 108] st) []).1 = (ritems ws (rtell ws p)).2 ∧ st.bad = false) := by
  have hr := ris_sim h 1 [116, 101, 108, 108]
  cases hi : isM ws 1 [116, 101, 108, 108] st with
  | true =>
    have hg := is_good hi
    have hn := next_sim hw h hg (by rw [is_kind hi]; decide)
    have hne : needM ws 1 [116, 101, 108, 108] st = st.adv := by unfold needM nextM; rw [hi]; rfl
    have hga : st.adv.bad = false := hg
    have ht : rtell ws p = p := by unfold rtell; rw [hr, hi]; rfl
    have hpb : p.bad < 0 := by rw [h.good hg]; show (-1 : Int) < 0; decide
    rw [hne, hga, ht]
    unfold ritems
    rw [if_pos hpb]
    simp only [Bool.false_eq_true, if_false]
    obtain ⟨h1, v1⟩ := itemsF_sim hw (ws.length + 1) st.adv p [] [] hn (by omega) (fun _ => rfl)
    exact ⟨h1, fun hb => ⟨v1 hb, hg⟩⟩
  | false =>
    have hne : needM ws 1 [116, 101, 108, 108] st = ⟨st.at_, true⟩ := by unfold needM nextM; rw [hi]; rfl
    have ht : rtell ws p = rhere ws p := by unfold rtell; rw [hr, hi]; rfl
    have hs := wrong_sim h
    have h0 := hs.nonneg rfl
    rw [hne, ht]
    simp only [if_true]
    unfold ritems
    rw [if_neg (by show ¬ (rwrong p _).bad < 0; omega)]
    exact ⟨hs, fun h => by cases h⟩
theorem lim_sim {ws : List W} (hw : Wf ws) {st : St} {p : Rp} (h : Sim ws st p) :
    Sim ws (if isM ws 1 [108, 105, 109, 105, 116] st then numM ws 256 st.adv else (256, st)).2 (rlim ws p).1 ∧ ((if isM ws 1 [108, 105, 109, 105, 116] st then numM ws 256 st.adv else (256, st)).2.bad = false → (if isM ws 1 [108, 105, 109, 105, 116] st then numM ws 256 st.adv else (256, st)).1 = (rlim ws p).2 ∧ st.bad = false) := by
  have hr := ris_sim h 1 [108, 105, 109, 105, 116]
  unfold rlim
  rw [hr]
  cases hi : isM ws 1 [108, 105, 109, 105, 116] st with
  | true =>
    have hg := is_good hi
    have hn := next_sim hw h hg (by rw [is_kind hi]; decide)
    have hga : st.adv.bad = false := hg
    have hw1 := hn.now hga
    simp only [if_true]
    unfold numM numB rlimW
    rw [hw1]
    have hbadW : ∀ q : Rp, q = rhere ws (rnext ws p) → Sim ws ⟨st.adv.at_, true⟩ (rnext ws q) := fun q hq => by
      have hs := wrong_sim hn
      refine ⟨hs.1, Or.inr ⟨rfl, ?_⟩⟩
      rw [rnext_bad, hq]; exact hs.wrong rfl
    by_cases hk : (wd ws st.adv.at_).kind = 2
    · by_cases hm : (wd ws st.adv.at_).n ≤ 256
      · have hW : (if (wd ws st.adv.at_).kind ≠ 2 ∨ 256 < (wd ws st.adv.at_).n then rhere ws (rnext ws p) else rnext ws p) = rnext ws p := if_neg (by omega)
        have hmu : (mustM (true && true) st.adv).bad = false := hga
        rw [hW, decide_eq_true hk, decide_eq_true hm, hmu, hw1]
        simp only [Bool.false_eq_true, if_false]
        exact ⟨next_sim hw hn hga (by rw [hk]; decide), fun _ => ⟨by trivial, hg⟩⟩
      · have hW : (if (wd ws st.adv.at_).kind ≠ 2 ∨ 256 < (wd ws st.adv.at_).n then rhere ws (rnext ws p) else rnext ws p) = rhere ws (rnext ws p) := if_pos (by omega)
        rw [hW, decide_eq_true hk, decide_eq_false hm]
        exact ⟨hbadW _ rfl, fun h => by cases h⟩
    · have hW : (if (wd ws st.adv.at_).kind ≠ 2 ∨ 256 < (wd ws st.adv.at_).n then rhere ws (rnext ws p) else rnext ws p) = rhere ws (rnext ws p) := if_pos (Or.inl hk)
      rw [hW, decide_eq_false hk]
      exact ⟨hbadW _ rfl, fun h => by cases h⟩
  | false => exact ⟨h, fun hb => ⟨rfl, hb⟩⟩
theorem end_sim {ws : List W} {st : St} {p : Rp} (h : Sim ws st p) : Sim ws (mustM (decide ((wd ws st.at_).kind = 0)) st) (rend ws p) := by
  cases hb : st.bad with
  | true =>
    rw [must_off _ hb]
    unfold rend
    split
    · exact h
    · exact h.stay hb (rwrong_bad p _ (h.nonneg hb))
  | false =>
    unfold rend
    rw [h.now hb]
    by_cases hk : (wd ws st.at_).kind = 0
    · rw [decide_eq_true hk, if_pos hk]; exact h
    · rw [decide_eq_false hk, if_neg hk]; exact wrong_sim h
theorem quest_sim {ws : List W} (hw : Wf ws) (h0 : 0 < ws.length) : Sim ws (questM ws).2 (rquest ws).1 ∧ ((questM ws).2.bad = false → (questM ws).1 = (rquest ws).2) := by
  have s0 : Sim ws ⟨0, false⟩ ⟨0, -1⟩ := ⟨h0, Or.inl ⟨rfl, rfl⟩⟩
  have s1 := need_sim hw s0 (k := 1) [102, 105, 110, 100] (by decide)
  obtain ⟨s2, v2⟩ := node_sim hw s1
  obtain ⟨s3, v3⟩ := edgesF_sim hw (ws.length + 1) _ _ [(nodeM ws (needM ws 1 [102, 105, 110, 100] ⟨0, false⟩)).1] [(rnode ws (rmust ws 1 [102, 105, 110, 100] ⟨0, -1⟩)).2] [] [] s2 (fun hb => by rw [v2 hb]; exact ⟨rfl, rfl⟩)
  unfold questM rquest
  simp only
  generalize edgesF ws (ws.length + 1) (nodeM ws (needM ws 1 [102, 105, 110, 100] ⟨0, false⟩)).2 [(nodeM ws (needM ws 1 [102, 105, 110, 100] ⟨0, false⟩)).1] [] = es at s3 v3 ⊢
  generalize redgesF ws (ws.length + 1) (rnode ws (rmust ws 1 [102, 105, 110, 100] ⟨0, -1⟩)).1 [(rnode ws (rmust ws 1 [102, 105, 110, 100] ⟨0, -1⟩)).2] [] = res at s3 v3 ⊢
  obtain ⟨s4, v4⟩ := conds_sim hw s3
  generalize (if isM ws 1 [119, 104, 101, 114, 101] es.2.2 then condsF ws (ws.length + 1) es.2.2.adv [] else ([], es.2.2)) = cs at s4 v4 ⊢
  obtain ⟨s5, v5⟩ := tell_sim hw s4
  generalize (if (needM ws 1 [116, 101, 108, 108] cs.2).bad then (([] : List It), needM ws 1 [116, 101, 108, 108] cs.2) else itemsF ws (ws.length + 1) (needM ws 1 [116, 101, 108, 108] cs.2) []) = is at s5 v5 ⊢
  obtain ⟨s6, v6⟩ := lim_sim hw s5
  generalize (if isM ws 1 [108, 105, 109, 105, 116] is.2 then numM ws 256 is.2.adv else (256, is.2)) = lm at s6 v6 ⊢
  refine ⟨end_sim s6, fun hb => ?_⟩
  have b6 : lm.2.bad = false := back (f := fun s => mustM (decide ((wd ws s.at_).kind = 0)) s) (fun h => must_off _ h) hb
  obtain ⟨e6, b5⟩ := v6 b6
  obtain ⟨e5, b4⟩ := v5 b5
  obtain ⟨e4, b3⟩ := v4 b4
  obtain ⟨e3, e2⟩ := v3 b3
  rw [e2, e3, e4, e5, e6]
theorem wordsF_len : ∀ (f : Nat) (l : List UInt8) (pos : Nat) (acc ws : List W) (e : Nat), wordsF f l pos acc = (some ws, e) → ws.length ≤ acc.length + l.length + 1
  | 0, l, pos, acc, ws, e, h => by
    simp only [wordsF, Prod.mk.injEq, Option.some.injEq] at h
    obtain ⟨rfl, rfl⟩ := h
    simp only [List.length_append, List.length_cons, List.length_nil]; omega
  | f + 1, [], pos, acc, ws, e, h => by
    simp only [wordsF, Prod.mk.injEq, Option.some.injEq] at h
    obtain ⟨rfl, rfl⟩ := h
    simp only [List.length_append, List.length_cons, List.length_nil]; omega
  | f + 1, c :: r, pos, acc, ws, e, h => by
    simp only [wordsF] at h
    split at h
    · have := wordsF_len f r (pos + 1) acc ws e h
      simp only [List.length_cons]; omega
    · cases hw : wordAt (c :: r) pos with
      | none => rw [hw] at h; simp at h
      | some z =>
        obtain ⟨x, k⟩ := z
        rw [hw] at h
        simp only at h
        have hk := wordAt_len _ _ _ _ hw
        have := wordsF_len f _ (pos + k) (acc ++ [x]) ws e h
        simp only [List.length_append, List.length_cons, List.length_nil, List.length_drop] at this hk ⊢
        omega
/-- the program's question of a text, as the document gives its places -/
def toR : Qn ⊕ (Nat × Nat) → Qn ⊕ (Int × Nat)
  | .inl q => .inl q
  | .inr (p, n) => .inr ((p : Int), n)
theorem parse_eq (l : List UInt8) : rparseL l = toR (parseL l) := by
  unfold rparseL parseL
  by_cases h1 : 1000 < l.length
  · rw [if_pos h1, if_pos h1]; rfl
  · rw [if_neg h1, if_neg h1]
    cases hw : wordsL l with
    | mk r p =>
    cases r with
    | none => rfl
    | some ws =>
      have hn := wordsF_len _ _ _ _ _ _ hw
      simp only [List.length_nil] at hn
      obtain ⟨hwf, hne, -⟩ := words_wf l ws p (by omega) hw (by omega)
      have h0 : 0 < ws.length := by rcases ws with _ | ⟨x, t⟩; exact absurd rfl hne; simp
      obtain ⟨hs, hv⟩ := quest_sim hwf h0
      simp only
      unfold parseM
      cases hb : (questM ws).2.bad with
      | true =>
        have hp := hs.wrong hb
        rw [if_neg (by rw [hp]; have : (0 : Int) ≤ ((wd ws (questM ws).2.at_).pos : Int) := Int.natCast_nonneg _; omega), hp]
        rfl
      | false =>
        have hp := hs.good hb
        rw [if_pos (by rw [hp]; show (-1 : Int) < 0; decide), ← hv hb]
        simp only [Bool.false_eq_true, if_false]
        cases hm : mayQ (questM ws).1 <;> rfl
end Go.Proofs.YtgbkpkioijbgoaaDoor.qry
end
